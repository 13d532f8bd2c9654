/-
  CONTRACT OF PACKAGE buffer's All: the rising row of all that is written, in new memory; nothing that lay has turned. Conditions: as they stand.
-/
import Derived.Test.YtmjcipojidimgaaLm
namespace Go.Proofs.Ytmjcipojidimgaa
set_option maxRecDepth 100000
open Go.RowKit Go.Maps Go.Shelf
set_option linter.unusedVariables false
attribute [local go_sem] Oper.semAt_some
set_option maxRecDepth 100000 in
set_option maxHeartbeats 4000000 in
theorem all_core (n : Nat) (hn : 7 ≤ n) (pq : Option Addr) (w : World) (xs0 : List (Lev w w.heap.size)) (N : Nat) (hN : N ≤ 1000) (hxN : xs0.length ≤ N) (Sp : List (Lev w w.heap.size) → Prop)
    (hseq : ∀ W0 : World, Below w.heap.size w W0 → W0.heap.size = w.heap.size + 3 → _root_.Go.Boxed W0 (w.heap.size + 2) 24 (.pointer pq) → SeqO Fence.wide (n - 1) Try.prog 39 #[.pointer (some ⟨w.heap.size + 2, 0, none⟩)] (encP Lev.p) (Kc w.heap.size (w.heap.size + 2)) (fun ys => ys = xs0) Sp N W0) :
    CallsIn Fence.wide n Try.prog 23 #[.pointer pq] w fun e w' => ∃ (B : Option Addr) (d : Nat), e = .returned (.slice B (allS (flat (rowsOf xs0))).length d) ∧
      w'.ownsRow w.heap.size 43 2 (.slice B (allS (flat (rowsOf xs0))).length d) (allS (flat (rowsOf xs0))).length (pairCells (allS (flat (rowsOf xs0)))) ∧ Below w.heap.size w w' := by
  have h1 : 1 ≤ n := by omega
  have hfl : Fence.wide.fn 33 := trivial
  have hmm := @run_makeMap Try.prog
  obtain ⟨l, hlr⟩ : ∃ l, l = allS (flat (rowsOf xs0)) := ⟨_, rfl⟩
  have HR : Hid (l = allS (flat (rowsOf xs0))) := hlr
  rw [← hlr]
  clear hlr
  refine callsIn_of_wp_marks Try.func23 rfl trivial ?_ rfl
  simp only [Try.ntmps23, List.size_toArray, List.length_cons, List.length_nil, Nat.reduceAdd, Nat.reduceSub, Array.replicate_succ, Array.replicate_zero, List.push_toArray, List.append_toArray, List.nil_append, List.cons_append]
  gi_wp2_with (gi_at_call 33; refine (levels_in Fence.wide (n - 1) trivial rfl _ _).mono ?_; rintro e w' ⟨rfl, rfl⟩)
  obtain ⟨W0, hW0⟩ : ∃ W0, W0 = ((w.alloc (.map #[] 0)).alloc (.cells #[.map (some w.heap.size)] 52)).alloc (.cells #[.pointer pq] 24) := ⟨_, rfl⟩
  have hz0 : W0.heap.size = w.heap.size + 3 := by rw [hW0]; simp
  have hB0 : Below w.heap.size w W0 := by rw [hW0]; exact (((Below.refl _ w).alloc (Nat.le_refl _) _).alloc (by simp) _).alloc (by simp; omega) _
  have hM : LV W0 w.heap.size 0 (fun _ => none) := by
    refine ⟨.map [], ?_, fun v _ => rfl⟩
    rw [hW0]
    exact ((World.ownsMap_made w _ _ _).alloc _).alloc _
  have bM : _root_.Go.Boxed W0 (w.heap.size + 1) 52 (.map (some w.heap.size)) := by
    rw [hW0]
    have := (_root_.Go.Boxed.new (w.alloc (.map #[] 0)) 52 (.map (some w.heap.size))).alloc (.cells #[.pointer pq] 24)
    rwa [World.size_alloc] at this
  have bQ : _root_.Go.Boxed W0 (w.heap.size + 2) 24 (.pointer pq) := by
    rw [hW0]
    have := _root_.Go.Boxed.new ((w.alloc (.map #[] 0)).alloc (.cells #[.map (some w.heap.size)] 52)) 24 (.pointer pq)
    rwa [World.size_alloc, World.size_alloc] at this
  have hs0 := hseq W0 hB0 hz0 bQ
  rw [← hW0]
  clear hW0 hmm
  refine loopO (F := Fence.wide) rfl h1 (gf := 39) (lb := #[.pointer (some ⟨w.heap.size + 2, 0, none⟩)]) rfl trivial (enters_of Try.func39 (by kernel_rfl) rfl)
    hs0 (by omega) (fun _ => rfl)
    (fun pre W => (LV W w.heap.size (pre.length * 1000) (fun v => saysL (rowsOf pre) v) ∧ _root_.Go.Boxed W (w.heap.size + 1) 52 (.map (some w.heap.size))) ∧ Below w.heap.size w W)
    (fun pre W => False)
    (OwnFrom.and (fun s A B row hs hg hr => ⟨hs.1.of_block (hg.block _ hs.1.lt fun e => by have := (hr _ e.symm).1; omega), own_box _ _ (fun _ => .map (some w.heap.size)) W0.heap.size s A B row hs.2 hg hr⟩) (ownFrom_below (Nat.le_refl _) (by omega)))
    (fun s A B row hs hg hr => hs)
    ⟨⟨hM.congr (fun v _ => rfl), bM⟩, hB0⟩
    (fun x => { tmps := #[.pointer pq, undef, .slice none 0 0, .pointer (some ⟨w.heap.size + 1, 0, none⟩), .map x.p, undef, undef, undef, .map (some w.heap.size), .pointer pq, .func (.func 39) #[] #[.pointer (some ⟨w.heap.size + 1 + 1, 0, none⟩)], .map x.p, undef, undef, undef, undef, undef, undef, undef, undef, undef, undef, undef, undef, undef, undef, undef, undef, undef, undef, undef, undef, undef], defers := [] }) ?assign ?body ?done ?stop
  case assign =>
    intro l2 x W4 K hK
    unfold encP
    gi_wp2
    exact hK
  case body =>
    rintro l2 pre x W4 ⟨⟨hlv, b1⟩, hB4⟩ hlen
    have hz4 : w.heap.size + 1 < W4.heap.size := b1.lt
    have c1 := b1.cell
    have hxs := x.small
    have hcall := fill_any w.heap.size x.p (pre.length * 1000) x.row.length (fun v => saysL (rowsOf pre) v) (rowSays x.row) W4 hlv (x.on hB4) (fun e => by have := x.low _ e; omega) (by omega)
    have hfF : Fence.wide.fn 34 := trivial
    gi_wp2
    refine ⟨fun _ => by omega, CallsIn.mono (CallsIn.inRound l2 (callsIn_wide.2 hcall)) ?_⟩
    rintro e W5 ⟨rfl, hl5, hg5⟩
    gi_wp2
    refine ⟨KeepsFrom.of_grownBy hg5 (fun j e => by cases e; omega), Kc.of_map hg5 (Nat.le_refl _) (by omega) hB4.size, ⟨(hl5.mono (by simp; omega)).congr fun v _ => (says_append_row pre x v).symm, b1.kept hg5 (by simp)⟩, hB4.grown hg5 hB4.size (fun j e => by cases e; exact Nat.le_refl _)⟩
  case done =>
    rintro xs W4 rfl ⟨⟨⟨D, ho, hf⟩, b1⟩, hB4⟩ hK
    have hz4 : W0.heap.size < W4.heap.size := (Array.getElem?_eq_some_iff.1 hK).1
    have hsz : size D ≤ 1000000 := by
      have := ho.size_le
      omega
    have c1 := b1.cell
    have hfK : Fence.wide.fn 36 := trivial
    have hfS : Fence.wide.fn 35 := trivial
    gi_wp2_with (first
      | (gi_at_call 36; refine (keysP_in (n - 1) _ _).mono ?_; rintro e w' ⟨rfl, rfl⟩)
      | (gi_at_call 35; refine (sortedP_in (n - 1) (by omega) w.heap.size _ D W4 ho (by omega)).mono ?_; rintro e W7 ⟨B, d, ss, rfl, hss, hka, hb7⟩))
    have hkr : keysRow D ss = l := by rw [HR.out]; exact keysRow_all ho hss (fun r hr e he => by obtain ⟨x, _, rfl⟩ := List.mem_map.1 hr; exact (x.ok e he).1) hf
    have hkl : (keysRow D ss).length = size D := (keysRow_up ho hss).2.1
    have hlk : ∀ j (h : j < (keysRow D ss).length), wfI (keysRow D ss)[j].1 ∧ (keysRow D ss)[j].2 = (lk D (keysRow D ss)[j].1).getD 0 := fun j hj => by
      have hm : (keysRow D ss)[j] ∈ keysRow D ss := List.getElem_mem hj
      obtain ⟨k, hk, e⟩ := List.mem_map.1 hm
      rw [← e]
      exact ⟨(keysRow_up ho hss).2.2.2 k ((List.mergeSort_perm _ _).mem_iff.1 hk), rfl⟩
    rw [hkr] at hkl hlk hka ⊢
    have hb7' : Below W4.heap.size W4 W7 := ((Below.refl _ W4).alloc (Nat.le_refl _) _).trans (hb7.mono (by omega))
    have hB7 : Below w.heap.size w W7 := hB4.trans (hb7'.mono hB4.size)
    have b7 : _root_.Go.Boxed W7 (w.heap.size + 1) 52 (.map (some w.heap.size)) := (hb7'.block _ b1.lt).trans b1
    have ho7 := ownsMap_of_block ho (hb7'.block _ ho.lt)
    rw [hz0] at hK hz4
    have hK7 := (hb7'.block _ (Array.getElem?_eq_some_iff.1 hK).1).trans hK
    have hl6 : l.length ≤ 1000000 := by omega
    clear hkl hb7 hb7' ho hss hf hK c1 b1 hB4 hz4 hkr
    gi_loopw [5, 19] (fun s i wr => ∃ k : Nat, k ≤ l.length ∧ i = .int .i64 k ∧ wr.ownsRow W7.heap.size 43 2 s k (pairCells (l.take k)) ∧ (k = 0 → s = .slice none 0 0) ∧ Below W7.heap.size W7 wr) (fun _ i _ => l.length - (intOf i).toNat)
    case atStart => exact ⟨0, Nat.zero_le _, rfl, World.ownsRow_nil _ _ _ _, fun _ => rfl, Below.refl _ _⟩
    case round =>
      obtain ⟨k, hk, rfl, own, hs0, hbr⟩ := hrel
      have hKr : wr.heap[w.heap.size + 3]? = some (.deferred (some [])) := (hbr.block _ (Array.getElem?_eq_some_iff.1 hK7).1).trans hK7
      by_cases hlt : k < l.length
      · obtain ⟨p, rfl, mb, cp⟩ := hka k hlt
        have cp1 : wr.cell? (p.add k) = some (.int .i64 l[k].1) := (hbr.cell (by rw [ad8_block]; exact mb)).trans cp
        have c1 : wr.cell? ⟨w.heap.size + 1, 0, none⟩ = some (.map (some w.heap.size)) := _root_.Go.Boxed.cell (W := wr) ((hbr.block _ b7.lt).trans b7)
        obtain ⟨hw1, hv1⟩ := hlk k hlt
        obtain ⟨u, hrun, hat, hwu⟩ := (ownsMap_of_block ho7 (hbr.block _ ho7.lt)).lookup_int keyed8 Try.underlying52 Try.underlying2 (zero8 wr) (keyOf_int_mk Try.underlying3 hw1)
        have hu : u = l[k].2 := by
          rw [hv1, lk_at (c := u) hat]
          by_cases hh : has D (kI l[k].1) = true
          · rw [if_pos hh]; rfl
          · rw [if_neg hh]
            have := atKey_of_not_has (Bool.eq_false_iff.2 hh) (dI 0)
            have h2 : (dI u : DU) = dI 0 := hat.symm.trans this
            injection h2 with h2
            injection h2
        have htk : l.take (k + 1) = l.take k ++ [l[k]] := List.take_succ_eq_append_getElem hlt
        have hpc : pairCells (l.take (k + 1)) = pairCells (l.take k) ++ [.int .i64 l[k].1, .int .i64 u] := by rw [htk, pairCells_snoc, hu]
        obtain ⟨y1, hy1⟩ : ∃ y, y = l[k].1 := ⟨_, rfl⟩
        rw [← hy1] at cp1 hrun hpc
        have i1 : (0 : Int) ≤ (k : Int) := by omega
        have i2 : (k : Int) < (l.length : Int) := by omega
        have i3 : (k : Int) ≤ 1000000 := by omega
        obtain ⟨A5, n5, c5, hs5⟩ : ∃ A5 n5 c5, u5 = .slice A5 n5 c5 := by
          rcases own.2 with ⟨rfl, _⟩ | ⟨g, cap, cur, rfl, _⟩ <;> exact ⟨_, _, _, rfl⟩
        subst hs5
        have hz7 := hbr.size
        have OWN := Lib.hid own
        have HBR := Lib.hid hbr
        have HPC := Lib.hid hpc
        clear hy1 hw1 hv1 hat hu htk cp hs0 own hbr hpc
        gi_wp2_with (first
          | (gi_at_builtin; refine append_pair_in OWN.out hz7 (by omega) rfl _ _ rfl rfl rfl rfl ?_; intro g5 cap5 w9 own9 hg9)
          | fail)
        have hB9 : Below W7.heap.size W7 w9 := HBR.out.trans ((((Below.refl W7.heap.size wr).alloc hz7 _)).trans ⟨hg9.os, hg9.tape, hg9.output, hg9.size, fun i hi => hg9.block i (by simp; omega) (fun e => by
          rcases OWN.out.2 with ⟨h, _⟩ | ⟨g, cap, cur, h, hb, _⟩
          · rw [h] at e; cases e
          · rw [h] at e
            injection e with e
            have e : i = g := e
            omega)⟩)
        rw [← HPC.out] at own9
        go_roundw
        case rel => exact ⟨k + 1, by omega, by go_num, own9, (fun h => absurd h (by omega)), hB9⟩
        case measure => simp [intOf]; omega
      · obtain rfl : k = l.length := by omega
        have i2 : ¬ ((l.length : Int) < (l.length : Int)) := by omega
        rw [List.take_length] at own
        obtain ⟨A5, c5, hs5⟩ : ∃ A5 c5, u5 = .slice A5 l.length c5 := by
          rcases own.2 with ⟨rfl, h0⟩ | ⟨g, cap, cur, rfl, _⟩
          · exact ⟨none, 0, by rw [h0]⟩
          · exact ⟨_, _, rfl⟩
        subst hs5
        have own9 := ownsRow_putObj own (.deferred none) hKr rfl
        have hBw := hB7.trans (hbr.mono hB7.size)
        clear hka hlk own hs0
        gi_wp2
        refine ⟨by simp, .inl ⟨_, _, rfl, run_takeDeferred hKr, ?_⟩⟩
        refine ⟨_, results_tmp rfl _ _ _, A5, c5, rfl, ?_, hBw.trans (belowK_b (w := w) (Nat.le_refl _) _ _ _ _ (by omega) hKr rfl rfl)⟩
        obtain ⟨o1, o2⟩ := own9
        refine ⟨o1, ?_⟩
        rcases o2 with h | ⟨g, cap, cur, h, hb, h3⟩
        · exact .inl h
        · exact .inr ⟨g, cap, cur, h, by have := hB7.size; omega, h3⟩
  case stop =>
    rintro pre W4 hsp h hK
    exact h.elim
theorem all_in (n : Nat) (hn : 7 ≤ n) (q c : Nat) (A : Option Addr) (w : World) (p0 : Lev w w.heap.size) (L : List (Lev w w.heap.size)) (hq : q < w.heap.size)
    (hc0 : w.cell? ⟨q, 0, none⟩ = some (.map p0.p)) (hc1 : w.cell? ⟨q, 1, none⟩ = some (.slice A L.length c)) (hL : Lies8 Lev.p w w.heap.size A L) (hl : L.length ≤ 999) :
    CallsIn Fence.wide n Try.prog 23 #[.pointer (some ⟨q, 0, none⟩)] w fun e w' => ∃ (B : Option Addr) (d : Nat), e = .returned (.slice B (allS (flat (rowsOf (p0 :: L.reverse)))).length d) ∧
      w'.ownsRow w.heap.size 43 2 (.slice B (allS (flat (rowsOf (p0 :: L.reverse)))).length d) (allS (flat (rowsOf (p0 :: L.reverse)))).length (pairCells (allS (flat (rowsOf (p0 :: L.reverse))))) ∧ Below w.heap.size w w' :=
  all_core n hn (some ⟨q, 0, none⟩) w (p0 :: L.reverse) (L.length + 1) (by omega) (by simp) (fun ys => ys <+: p0 :: L.reverse) fun W0 hB0 hz0 bQ =>
    lev_seq (α := Lev w w.heap.size) Lev.p (n - 1) (by omega) (w.heap.size + 2) w.heap.size (w.heap.size + 2) c q p0 A L W0 bQ (Nat.le_refl _) hq (by omega) ((hB0.cell (p := ⟨q, 0, none⟩) hq).trans hc0) ((hB0.cell (p := ⟨q, 1, none⟩) hq).trans hc1) (hL.below hB0 (Nat.le_refl _)) (by omega)
theorem all_nil_in (n : Nat) (hn : 7 ≤ n) (w : World) :
    CallsIn Fence.wide n Try.prog 23 #[.pointer none] w fun e w' => ∃ (B : Option Addr) (d : Nat), e = .returned (.slice B 0 d) ∧ Below w.heap.size w w' := by
  refine CallsIn.mono (all_core n hn none w [] 0 (by omega) (by simp) (fun _ => False) fun W0 hB0 hz0 bQ => lev_seq_nil Lev.p (n - 1) (w.heap.size + 2) w.heap.size (w.heap.size + 2) W0 bQ) ?_
  rintro e w' ⟨B, d, he, _, hb⟩
  exact ⟨B, d, he, hb⟩
end Go.Proofs.Ytmjcipojidimgaa
