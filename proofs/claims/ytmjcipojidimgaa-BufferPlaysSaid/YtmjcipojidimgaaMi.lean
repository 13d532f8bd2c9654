/-
  CONTRACT OF seesawref08's All: its walk. Conditions: as they stand.
-/
import Derived.Test.YtmjcipojidimgaaMh
import Derived.Test.YtmjcipojidimgaaMc
namespace Go.Proofs.Ytmjcipojidimgaa
set_option maxRecDepth 100000
open Go.RowKit
set_option linter.unusedVariables false
theorem rows_take (R : List (List Pr)) (i : Nat) (h : i < R.length) : (R.take (i + 1)).flatten = (R.take i).flatten ++ R[i].take R[i].length := by
  rw [List.take_succ_eq_append_getElem h, List.flatten_append, List.take_length]; simp
theorem all_take (X r : List Pr) (j : Nat) (h : j < r.length) : allS (X ++ r.take (j + 1)) = insS r[j] (allS (X ++ r.take j)) := by
  rw [List.take_succ_eq_append_getElem h, ← List.append_assoc, all_snoc]
theorem src_take {w : World} {A : Option Addr} {news : List Value} (h : SrcG w A news) (n : Nat) : SrcG w A (news.take n) := fun j u hj => by
  have hl : j < n := by
    have := (List.getElem?_eq_some_iff.1 hj).1
    rw [List.length_take] at this
    omega
  rw [List.getElem?_take_of_lt hl] at hj
  exact h j u hj
theorem src_drop {w : World} {g : Nat} {news : List Value} (h : SrcG w (some ⟨g, 0, none⟩) news) (n : Nat) : SrcG w (some ⟨g, n, none⟩) (news.drop n) := fun j u hj => by
  rw [List.getElem?_drop] at hj
  obtain ⟨a, ha, hc⟩ := h (n + j) u hj
  injection ha with ha
  subst ha
  refine ⟨_, rfl, ?_⟩
  have e : (⟨g, n, none⟩ : Addr).add j = (⟨g, 0, none⟩ : Addr).add (n + j) := by
    rw [ad8_zero]
    unfold Addr.add
    by_cases h : j = 0
    · subst h; simp
    · rw [if_neg h]
  rw [e]
  exact hc
theorem OutAt.form {w : World} {B : Option Addr} {d : Nat} {l : List Pr} {wr : World} (h : OutAt w B d l wr) : (B = none ∧ d = 0 ∧ l = []) ∨ ∃ g, B = some ⟨g, 0, none⟩ ∧ l.length ≤ d ∧ g < wr.heap.size ∧ SrcG wr (some ⟨g, 0, none⟩) (pairCells l) := by
  rcases h.1.2 with ⟨hv, h0⟩ | ⟨g, cap, cur, hv, h1, h2, h3, h4⟩
  · injection hv with e1 e2 e3
    exact .inl ⟨e1, e3, List.length_eq_zero_iff.1 h0⟩
  · injection hv with e1 e2 e3
    subst e1
    subst e3
    have hl := h.1.lt g rfl
    exact .inr ⟨g, rfl, h3, hl.2, row_src h.1⟩
theorem OutAt.put {w : World} {l : List Pr} {p : Pr} {t : Nat} {W w9 : World} {base : Nat} {A : Option Addr} {d : Nat} (hw : Below w.heap.size w W) (hb : W.heap.size ≤ base) (h : ClG w9 base 43 2 (.slice A (l.length + 1) d) (l.length + 1) (pairCells (l.take t) ++ [.int .i64 p.1, .int .i64 p.2] ++ pairCells (l.drop t))) (hB : Below W.heap.size W w9) (hi : insS p l = l.take t ++ [p] ++ l.drop t) (ht : t ≤ l.length) :
    OutAt w A d (insS p l) w9 := by
  have hlen : (insS p l).length = l.length + 1 := by rw [hi]; simp; omega
  obtain ⟨g, rfl, h1, h2, hrow⟩ := cl_form h (by omega)
  refine ⟨?_, hw.trans (hB.mono hw.size)⟩
  rw [hlen, hi]
  have e : pairCells (l.take t ++ [p] ++ l.drop t) = pairCells (l.take t) ++ [.int .i64 p.1, .int .i64 p.2] ++ pairCells (l.drop t) := by simp [pairCells]
  rw [e]
  exact ownsRow_low hrow (by have := hw.size; omega)
theorem out_nil (w : World) : OutAt w none 0 [] w := ⟨World.ownsRow_nil _ _ _ _, Below.refl _ _⟩
set_option maxRecDepth 100000 in
set_option maxHeartbeats 4000000 in
theorem rall_low (q : Nat) (S : Nat → Prop) (g c : Nat) (L : List Lv) (w : World) (h : RefAt w q S g c L) (hL : L.length ≤ 100000) (hF : ((L.map (·.2.2)).flatten).length ≤ 100000) :
    Calls Try.prog 26 #[.pointer (some ⟨q, 0, none⟩)] w fun e w' => ∃ B d, e = .returned (.slice B (allS (L.map (·.2.2)).flatten).length d) ∧ OutAt w B d (allS (L.map (·.2.2)).flatten) w' := by
  have H := Lib.hid h
  obtain ⟨c0, f0⟩ := h.c0
  have hq := h.lt q h.own
  have hg := h.lt g h.ownG
  have hLi : (L.length : Int) ≤ 100000 := by omega
  have HF := Lib.hid (level_len hF)
  obtain ⟨R, hR⟩ : ∃ R, R = L.map (·.2.2) := ⟨_, rfl⟩
  rw [← hR] at hF ⊢
  have hRl : R.length = L.length := by rw [hR]; simp
  have HR := Lib.hid hR
  have HA : Hid (∀ i, (R.take i).flatten.length ≤ 100000) := fun i => by
    have e : R.flatten.length = (R.take i).flatten.length + (R.drop i).flatten.length := by
      rw [← List.length_append, ← List.flatten_append, List.take_append_drop]
    omega
  clear h hR
  go_enter Try.func26, Try.ntmps26
  go_wp2_with fail
  go_loopw [3, 4] (fun o i wr => ∃ (m : Nat) (B : Option Addr) (d : Nat) (l : List Pr), m ≤ L.length ∧ i = .int .i64 m ∧ o = .slice B l.length d ∧ Hid (l = allS (R.take m).flatten) ∧ Hid (OutAt w B d l wr)) (fun _ i _ => L.length - (intOf i).toNat)
  case atStart => exact ⟨0, none, 0, [], Nat.zero_le _, rfl, rfl, (by show _ = _; simp [allS]), out_nil w⟩
  case round =>
    obtain ⟨m, B, d, l, hm, rfl, rfl, hl, ho⟩ := hrel
    have b0 := (ho.out.2.cell (p := ⟨q, 0, none⟩) hq).trans c0
    by_cases hlt : m < L.length
    · have hmR : m < R.length := by omega
      have hrow : (L[m]).2.2 = R[m] := by have e := HR.out; subst e; simp
      have hrc := (H.out.row_cell m hlt).1
      have hlev := H.out.lev _ (List.getElem_mem hlt)
      have hln := HF.out _ (List.getElem_mem hlt)
      obtain ⟨E, dE, hE1, hE2⟩ : ∃ E dE, L[m].1 = E ∧ L[m].2.1 = dE := ⟨_, _, rfl, rfl⟩
      rw [hE1, hE2, hrow] at hrc
      rw [hE1, hrow] at hlev
      rw [hrow] at hln
      have hnext : Hid ((R.take (m + 1)).flatten = (R.take m).flatten ++ R[m].take R[m].length) := rows_take R m hmR
      have hxl := HA.out m
      have hxl2 := HA.out (m + 1)
      rw [hnext.out] at hxl2
      obtain ⟨row, hrw⟩ : ∃ row, row = R[m] := ⟨_, rfl⟩
      rw [← hrw] at hrc hlev hln hnext hxl2
      obtain ⟨X, hX⟩ : ∃ X, X = (R.take m).flatten := ⟨_, rfl⟩
      rw [← hX] at hl hnext hxl hxl2
      rw [List.take_length, List.length_append] at hxl2
      have b1 := (ho.out.2.cell (p := ⟨g, m, none⟩) hg).trans hrc
      have i1 : (0 : Int) ≤ (m : Int) := by omega
      have i2 : (m : Int) < (L.length : Int) := by omega
      have i3 : (m : Int) ≤ 100000 := by omega
      have HLEV := Lib.hid hlev
      have HRC := Lib.hid hrc
      have hs : Hid (l = allS (X ++ row.take 0)) := by show _ = _; rw [hl.out]; simp
      clear hE1 hE2 hrow hlev hrw hX hl hrc
      go_wp2_with fail
      go_loopw [3, 5] (fun o i wr => ∃ (j : Nat) (B : Option Addr) (d : Nat) (l : List Pr), j ≤ row.length ∧ i = .int .i64 j ∧ o = .slice B l.length d ∧ Hid (l = allS (X ++ row.take j)) ∧ Hid (OutAt w B d l wr)) (fun _ i _ => row.length - (intOf i).toNat)
      case atStart => exact ⟨0, B, d, l, Nat.zero_le _, by go_num, rfl, hs, ho⟩
      case round =>
        clear ho hs b0 b1
        obtain ⟨j, B, d, l, hj, rfl, rfl, hl, ho⟩ := hrel
        have b0 := (ho.out.2.cell (p := ⟨q, 0, none⟩) hq).trans c0
        have b1 := (ho.out.2.cell (p := ⟨g, m, none⟩) hg).trans HRC.out
        by_cases hlt2 : j < row.length
        · obtain ⟨pE, rfl, mbE, y1, y2⟩ := HLEV.out j hlt2
          have x1 := (ho.out.2.cell (p := pE.add (j * 2)) (by rw [ad8_block]; exact mbE)).trans y1
          have x2 := (ho.out.2.cell (p := ⟨(pE.add (j * 2)).block, (pE.add (j * 2)).off + 1, none⟩) (by show (pE.add (j * 2)).block < _; rw [ad8_block]; exact mbE)).trans y2
          have hll : l.length ≤ 100000 := by
            rw [hl.out]
            have := all_len (X ++ row.take j)
            rw [List.length_append, List.length_take] at this
            omega
          have hins : Hid (allS (X ++ row.take (j + 1)) = insS row[j] l) := by show _ = _; rw [all_take X row j hlt2, hl.out]
          obtain ⟨u1, hu1⟩ : ∃ u, u = row[j].1 := ⟨_, rfl⟩
          obtain ⟨u2, hu2⟩ : ∃ u, u = row[j].2 := ⟨_, rfl⟩
          have hp : row[j] = (u1, u2) := by rw [hu1, hu2]
          rw [hp] at hins
          rw [← hu1] at x1
          rw [← hu2] at x2
          have j1 : (0 : Int) ≤ (j : Int) := by omega
          have j2 : (j : Int) < (row.length : Int) := by omega
          have j3 : (j : Int) ≤ 100000 := by omega
          clear hu1 hu2 hp y1 y2 hl
          go_wp2_with fail
          have hoW := Lib.hid (ho.out.below (oh0 wr (.cells #[.int .i64 u1, .int .i64 u2] 43)))
          have hbW := World.alloc_heap_new wr (.cells #[.int .i64 u1, .int .i64 u2] 43)
          obtain ⟨bP, hbP⟩ : ∃ b, b = wr.heap.size := ⟨_, rfl⟩
          obtain ⟨W1, hW1⟩ : ∃ W, W = wr.alloc (.cells #[.int .i64 u1, .int .i64 u2] 43) := ⟨_, rfl⟩
          have hwP : w.heap.size ≤ bP := by rw [hbP]; exact ho.out.2.size
          rw [← hW1] at hoW hbW ⊢
          rw [← hbP] at hbW ⊢
          clear hW1 hbP ho b0 b1 x1 x2
          go_loopw [7] (fun i wr => ∃ t : Nat, i = .int .i64 t ∧ Hid (AtT l u1 t) ∧ Hid (OutAt w B d l wr) ∧ Hid (wr.heap[bP]? = some (.cells #[.int .i64 u1, .int .i64 u2] 43 (0, 0)))) (fun i _ => l.length - (intOf i).toNat)
          case atStart => exact ⟨0, rfl, ⟨Nat.zero_le _, fun i hi _ => absurd hi (by omega)⟩, hoW, hbW⟩
          case round =>
            clear hoW hbW
            obtain ⟨t, rfl, hat, ho, hb⟩ := hrel
            have p0 : wr.cell? ⟨bP, 0, none⟩ = some (.int .i64 u1) := by simp [World.cell?, hb.out]
            have p1 : wr.cell? ⟨bP, 1, none⟩ = some (.int .i64 u2) := by simp [World.cell?, hb.out]
            have htl := hat.out.le
            have t1 : (0 : Int) ≤ (t : Int) := by omega
            have t3 : (t : Int) ≤ 100000 := by omega
            by_cases hlt3 : t < l.length
            · obtain ⟨gB, rfl, hgB, hgB2, htd, z1, z2, z3⟩ := ho.out.cell hlt3
              have t2 : (t : Int) < (l.length : Int) := by omega
              obtain ⟨e1, he1⟩ : ∃ u, u = l[t].1 := ⟨_, rfl⟩
              obtain ⟨e2, he2⟩ : ∃ u, u = l[t].2 := ⟨_, rfl⟩
              rw [← he1] at z1
              rw [← he2] at z2
              by_cases hc1 : e1 < u1
              · have hat2 : Hid (AtT l u1 (t + 1)) := ⟨by omega, fun i hi hi' => by
                  by_cases h : i = t
                  · subst h; rw [← he1]; exact hc1
                  · exact hat.out.low i (by omega) hi'⟩
                go_wp2_with fail
                go_quiet (fail)
                go_wp2_with fail
                have ho3 := Lib.hid (ho.out.below (drewN_below8 wr nq))
                have hb3 : Hid ((wr.drewN nq).heap[bP]? = some (.cells #[.int .i64 u1, .int .i64 u2] 43 (0, 0))) := hb.out
                go_roundw
                case rel => exact ⟨t + 1, by go_num, hat2, ho3, hb3⟩
                case measure => simp [intOf]; omega
              · have hAT := hat
                by_cases hc2 : e1 = u1
                · have hc3 : (e1 == u1) = true := by simp [hc2]
                  have hsame : Hid (insS (u1, u2) l = l.set t (u1, u2)) := ins_same (p := (u1, u2)) hat.out hlt3 (by rw [← he1]; exact hc2)
                  go_wp2_with fail
                  go_quiet (fail)
                  have ho3 := Lib.hid (ho.out.below (drewN_below8 wr nq))
                  have hb3 : Hid ((wr.drewN nq).heap[bP]? = some (.cells #[.int .i64 u1, .int .i64 u2] 43 (0, 0))) := hb.out
                  generalize wr.drewN nq = W3 at *
                  obtain ⟨_, hpB, _, _, _, y1, y2, y3⟩ := ho3.out.cell hlt3
                  injection hpB with hpB; injection hpB with hpB; subst hpB
                  rw [← he1] at y1
                  have p30 : W3.cell? ⟨bP, 0, none⟩ = some (.int .i64 u1) := by simp [World.cell?, hb3.out]
                  have p31 : W3.cell? ⟨bP, 1, none⟩ = some (.int .i64 u2) := by simp [World.cell?, hb3.out]
                  clear ho hb p0 p1 z1 z2 z3 y2
                  go_wp2_with fail
                  go_quiet (fail)
                  have ho4 := Lib.hid (ho3.out.below (drewN_below8 W3 nq))
                  have hb4 : Hid ((W3.drewN nq).heap[bP]? = some (.cells #[.int .i64 u1, .int .i64 u2] 43 (0, 0))) := hb3.out
                  generalize W3.drewN nq = W4 at *
                  obtain ⟨_, hpB, _, _, _, y1, y2, y3⟩ := ho4.out.cell hlt3
                  injection hpB with hpB; injection hpB with hpB; subst hpB
                  have p40 : W4.cell? ⟨bP, 0, none⟩ = some (.int .i64 u1) := by simp [World.cell?, hb4.out]
                  have p41 : W4.cell? ⟨bP, 1, none⟩ = some (.int .i64 u2) := by simp [World.cell?, hb4.out]
                  clear ho3 hb3 p30 p31
                  go_wp2_with fail
                  have ho5 := Lib.hid (ho4.out.store hlt3 u1 u2 (by rw [← he1]; exact hc2))
                  rw [← hsame.out] at ho5
                  have hs5 : Hid (insS (u1, u2) l = allS (X ++ row.take (j + 1))) := hins.out.symm
                  have hl5 : l.length = (insS (u1, u2) l).length := by rw [hsame.out, List.length_set]
                  go_roundw
                  case rel => exact ⟨j + 1, _, d, insS (u1, u2) l, by omega, by go_num, by rw [hl5], hs5, ho5⟩
                  case measure => simp [intOf]; omega
                · have hc3 : (e1 == u1) = false := by simp [hc2]
                  have hput : Hid (insS (u1, u2) l = l.take t ++ [(u1, u2)] ++ l.drop t) := ins_new (p := (u1, u2)) hat.out (fun h => by rw [← he1]; show u1 < e1; omega)
                  go_wp2_with fail
                  go_quiet (fail)
                  have ho3 := Lib.hid (ho.out.below (drewN_below8 wr nq))
                  have hb3 : Hid ((wr.drewN nq).heap[bP]? = some (.cells #[.int .i64 u1, .int .i64 u2] 43 (0, 0))) := hb.out
                  generalize wr.drewN nq = W3 at *
                  obtain ⟨_, hpB, _, _, _, y1, y2, y3⟩ := ho3.out.cell hlt3
                  injection hpB with hpB; injection hpB with hpB; subst hpB
                  rw [← he1] at y1
                  have p30 : W3.cell? ⟨bP, 0, none⟩ = some (.int .i64 u1) := by simp [World.cell?, hb3.out]
                  have p31 : W3.cell? ⟨bP, 1, none⟩ = some (.int .i64 u2) := by simp [World.cell?, hb3.out]
                  clear ho hb p0 p1 z1 z2 z3 y2
                  go_wp2_with fail
                  go_quiet (fail)
                  have ho4 := Lib.hid (ho3.out.below (drewN_below8 W3 nq))
                  have hb4 : Hid ((W3.drewN nq).heap[bP]? = some (.cells #[.int .i64 u1, .int .i64 u2] 43 (0, 0))) := hb3.out
                  generalize W3.drewN nq = W4 at *
                  clear ho3 hb3 p30 p31
                  go_wp2_with fail
                  have p40 : W4.cell? ⟨bP, 0, none⟩ = some (.int .i64 u1) := by simp [World.cell?, hb4.out]
                  have p41 : W4.cell? ⟨bP, 1, none⟩ = some (.int .i64 u2) := by simp [World.cell?, hb4.out]
                  have hbl : bP < W4.heap.size := (Array.getElem?_eq_some_iff.1 hb4.out).1
                  have q40 : ∀ o, (W4.alloc o).cell? ⟨bP, 0, none⟩ = some (.int .i64 u1) := fun o => ((oh0 W4 o).cell (p := ⟨bP, 0, none⟩) hbl).trans p40
                  have q41 : ∀ o, (W4.alloc o).cell? ⟨bP, 1, none⟩ = some (.int .i64 u2) := fun o => ((oh0 W4 o).cell (p := ⟨bP, 1, none⟩) hbl).trans p41
                  have HSA : Hid (∀ w', Below W4.heap.size W4 w' → SrcG w' (some ⟨gB, 0, none⟩) (pairCells (l.take t)) ∧ SrcG w' (if d = t then some ⟨gB, 0, none⟩ else some ⟨gB, t * 2, none⟩) (pairCells (l.drop t))) := fun w' hbw => by
                    rcases ho4.out.form with ⟨h, _⟩ | ⟨g', hg', _, hgl, hsrc⟩
                    · cases h
                    · injection hg' with hg'
                      injection hg' with hg'
                      subst hg'
                      have h1 := src_take (src_below hsrc hbw (fun a e => by injection e with e; subst e; exact hgl)) (t * 2)
                      have h2 := src_drop (src_below hsrc hbw (fun a e => by injection e with e; subst e; exact hgl)) (t * 2)
                      rw [pairCells_take] at h1
                      rw [pairCells_drop] at h2
                      rw [if_neg (by omega)]
                      exact ⟨h1, h2⟩
                  have t4 : (t : Int) ≤ (d : Int) := by omega
                  have t5 : (t : Int) ≤ (l.length : Int) := by omega
                  go_region_law
                    (first
                      | (refine step_app (o := _) (K := _) (Q := _) (E := _) rfl (.tmp 82) (.tmp 85) Try.underlying35 pair_info rfl (by omega) rfl _ rfl hc6 (by have h1 := hB2.size; have h2 := hB6.size; simp at h1 h2 ⊢; omega) (pairCells (l.drop t)) rfl (by rw [pairCells_len, List.length_drop]) (HSA.out _ hX6).2 (pairs_one _) (by omega) (by unfold maxLen; omega) (l.length + 1) (by omega) ?_
                         intro A7 d7 w7 hc7 hB7; have hX7 : Below W4.heap.size W4 w7 := hX6.trans (hB7.mono (by first | exact (bl1 W4 _).size | exact (bl2 W4 _ _).size)))
                      | (refine step_app (o := _) (K := _) (Q := _) (E := _) rfl (.tmp 79) (.tmp 81) Try.underlying35 pair_info rfl (by omega) rfl _ rfl (by first | exact hc2 | exact cl_alloc hc2 _) (by simp; first | (have := hB2.size; simp at this; omega) | omega) [.int .i64 u1, .int .i64 u2] rfl rfl (by first | exact src_lit (World.alloc_heap_new w2 _) | exact src_lit ((hB2.block _ (hn2 W4 _ _).2).trans (hn2 W4 _ _).1) | exact src_lit ((hB2.block _ (hn1 W4 _ _).2).trans (hn1 W4 _ _).1)) (by simp [Value.oneCell']) (by omega) (by unfold maxLen; omega) (t + 1) rfl ?_
                         intro A6 d6 w6 hc6 hB6; have hX6 : Below W4.heap.size W4 w6 := (by first | exact hX.trans (hB6.mono (bl1 W4 _).size) | exact hX.trans (hB6.mono (bl2 W4 _ _).size) | exact (hX.alloc hX.size _).trans (hB6.mono (bl1 W4 _).size) | exact (hX.alloc hX.size _).trans (hB6.mono (bl2 W4 _ _).size)))
                      | (refine step_app (o := _) (K := _) (Q := _) (E := _) rfl (.tmp 75) (.tmp 78) Try.underlying35 pair_info rfl (by omega) rfl _ rfl (.inl ⟨_, rfl, rfl, rfl⟩) (Nat.le_refl _) (pairCells (l.take t)) rfl (by rw [pairCells_len, List.length_take]; omega) (HSA.out _ (by first | exact bl1 W4 _ | exact bl2 W4 _ _)).1 (pairs_one _) (by omega) (by unfold maxLen; omega) t (by omega) ?_
                         intro A2 d2 w2 hc2 hB2; have hX : Below W4.heap.size W4 w2 := (by first | exact (bl1 W4 _).trans (hB2.mono (bl1 W4 _).size) | exact (bl2 W4 _ _).trans (hB2.mono (bl2 W4 _ _).size)); have q20 := (hX.cell (p := ⟨bP, 0, none⟩) hbl).trans p40; have q21 := (hX.cell (p := ⟨bP, 1, none⟩) hbl).trans p41)
                      | (trace_state; fail))
                  all_goals
                    have ho7 := Lib.hid (OutAt.put (p := (u1, u2)) (W := W4) ho4.out.2 (by first | exact (bl1 W4 _).size | exact (bl2 W4 _ _).size) hc7 hX7 hput.out htl)
                    have hs7 : Hid (insS (u1, u2) l = allS (X ++ row.take (j + 1))) := hins.out.symm
                    have hl7 : l.length + 1 = (insS (u1, u2) l).length := by rw [hput.out]; simp; omega
                    clear hc7 hB7 hc6 hB6 hc2 hB2 hX hX6 hX7
                    go_wp2_with fail
                    go_roundw
                    case rel => exact ⟨j + 1, _, d7, insS (u1, u2) l, by omega, by go_num, (by first | rfl | rw [hl7]), hs7, ho7⟩
                    case measure => simp [intOf]; omega
            · have HTE : Hid (t = l.length) := by show _ = _; omega
              have t2 : ¬ ((t : Int) < (l.length : Int)) := by omega
              rcases ho.out.form with ⟨rfl, rfl, rfl⟩ | ⟨gB, rfl, htd, hgl, _⟩
              · have htz : t = 0 := HTE.out
                subst htz
                have hput : Hid (insS (u1, u2) [] = ([] : List Pr).take 0 ++ [(u1, u2)] ++ ([] : List Pr).drop 0) := rfl
                go_wp2_with fail
                go_quiet (fail)
                have ho3 := Lib.hid (ho.out.below (drewN_below8 wr nq))
                have hb3 : Hid ((wr.drewN nq).heap[bP]? = some (.cells #[.int .i64 u1, .int .i64 u2] 43 (0, 0))) := hb.out
                generalize wr.drewN nq = W3 at *
                have p30 : W3.cell? ⟨bP, 0, none⟩ = some (.int .i64 u1) := by simp [World.cell?, hb3.out]
                have p31 : W3.cell? ⟨bP, 1, none⟩ = some (.int .i64 u2) := by simp [World.cell?, hb3.out]
                clear ho hb p0 p1
                go_wp2_with fail
                go_quiet (fail)
                have ho4 := Lib.hid (ho3.out.below (drewN_below8 W3 nq))
                have hb4 : Hid ((W3.drewN nq).heap[bP]? = some (.cells #[.int .i64 u1, .int .i64 u2] 43 (0, 0))) := hb3.out
                generalize W3.drewN nq = W4 at *
                clear ho3 hb3 p30 p31
                go_wp2_with fail
                have p40 : W4.cell? ⟨bP, 0, none⟩ = some (.int .i64 u1) := by simp [World.cell?, hb4.out]
                have p41 : W4.cell? ⟨bP, 1, none⟩ = some (.int .i64 u2) := by simp [World.cell?, hb4.out]
                have hbl : bP < W4.heap.size := (Array.getElem?_eq_some_iff.1 hb4.out).1
                have q40 : ∀ o, (W4.alloc o).cell? ⟨bP, 0, none⟩ = some (.int .i64 u1) := fun o => ((oh0 W4 o).cell (p := ⟨bP, 0, none⟩) hbl).trans p40
                have q41 : ∀ o, (W4.alloc o).cell? ⟨bP, 1, none⟩ = some (.int .i64 u2) := fun o => ((oh0 W4 o).cell (p := ⟨bP, 1, none⟩) hbl).trans p41
                have HSA : ∀ w' A, SrcG w' A [] := fun w' A j u hj => by cases hj
                go_region_law
                  (first
                    | (refine step_app (o := _) (K := _) (Q := _) (E := _) rfl (.tmp 82) (.tmp 85) Try.underlying35 pair_info rfl (by omega) rfl _ rfl hc6 (by have h1 := hB2.size; have h2 := hB6.size; simp at h1 h2 ⊢; omega) [] rfl rfl (HSA _ _) (by simp) (by omega) (by unfold maxLen; omega) 1 (by omega) ?_
                       intro A7 d7 w7 hc7 hB7; have hX7 : Below W4.heap.size W4 w7 := hX6.trans (hB7.mono (by first | exact (bl1 W4 _).size | exact (bl2 W4 _ _).size)))
                    | (refine step_app (o := _) (K := _) (Q := _) (E := _) rfl (.tmp 79) (.tmp 81) Try.underlying35 pair_info rfl (by omega) rfl _ rfl (by first | exact hc2 | exact cl_alloc hc2 _) (by simp; first | (have := hB2.size; simp at this; omega) | omega) [.int .i64 u1, .int .i64 u2] rfl rfl (by first | exact src_lit (World.alloc_heap_new w2 _) | exact src_lit ((hB2.block _ (hn2 W4 _ _).2).trans (hn2 W4 _ _).1) | exact src_lit ((hB2.block _ (hn1 W4 _ _).2).trans (hn1 W4 _ _).1)) (by simp [Value.oneCell']) (by omega) (by unfold maxLen; omega) 1 rfl ?_
                       intro A6 d6 w6 hc6 hB6; have hX6 : Below W4.heap.size W4 w6 := (by first | exact hX.trans (hB6.mono (bl1 W4 _).size) | exact hX.trans (hB6.mono (bl2 W4 _ _).size) | exact (hX.alloc hX.size _).trans (hB6.mono (bl1 W4 _).size) | exact (hX.alloc hX.size _).trans (hB6.mono (bl2 W4 _ _).size)))
                    | (refine step_app (o := _) (K := _) (Q := _) (E := _) rfl (.tmp 75) (.tmp 78) Try.underlying35 pair_info rfl (by omega) rfl _ rfl (.inl ⟨_, rfl, rfl, rfl⟩) (Nat.le_refl _) [] rfl rfl (HSA _ _) (by simp) (by omega) (by unfold maxLen; omega) 0 (by omega) ?_
                       intro A2 d2 w2 hc2 hB2; have hX : Below W4.heap.size W4 w2 := (by first | exact (bl1 W4 _).trans (hB2.mono (bl1 W4 _).size) | exact (bl2 W4 _ _).trans (hB2.mono (bl2 W4 _ _).size)); have q20 := (hX.cell (p := ⟨bP, 0, none⟩) hbl).trans p40; have q21 := (hX.cell (p := ⟨bP, 1, none⟩) hbl).trans p41)
                    | (trace_state; fail))
                all_goals
                  have ho7 := Lib.hid (OutAt.put (p := (u1, u2)) (W := W4) ho4.out.2 (by first | exact (bl1 W4 _).size | exact (bl2 W4 _ _).size) hc7 hX7 hput.out htl)
                  have hs7 : Hid (insS (u1, u2) [] = allS (X ++ row.take (j + 1))) := hins.out.symm
                  clear hc7 hB7 hc6 hB6 hc2 hB2 hX hX6 hX7
                  go_wp2_with fail
                  go_roundw
                  case rel => exact ⟨j + 1, _, d7, insS (u1, u2) [], by omega, by go_num, (by first | rfl | rw [hl7]), hs7, ho7⟩
                  case measure => simp [intOf]; omega
              · have hput : Hid (insS (u1, u2) l = l.take t ++ [(u1, u2)] ++ l.drop t) := ins_new (p := (u1, u2)) hat.out (fun h => absurd h (by omega))
                go_wp2_with fail
                go_quiet (fail)
                have ho3 := Lib.hid (ho.out.below (drewN_below8 wr nq))
                have hb3 : Hid ((wr.drewN nq).heap[bP]? = some (.cells #[.int .i64 u1, .int .i64 u2] 43 (0, 0))) := hb.out
                generalize wr.drewN nq = W3 at *
                have p30 : W3.cell? ⟨bP, 0, none⟩ = some (.int .i64 u1) := by simp [World.cell?, hb3.out]
                have p31 : W3.cell? ⟨bP, 1, none⟩ = some (.int .i64 u2) := by simp [World.cell?, hb3.out]
                clear ho hb p0 p1
                go_wp2_with fail
                go_quiet (fail)
                have ho4 := Lib.hid (ho3.out.below (drewN_below8 W3 nq))
                have hb4 : Hid ((W3.drewN nq).heap[bP]? = some (.cells #[.int .i64 u1, .int .i64 u2] 43 (0, 0))) := hb3.out
                generalize W3.drewN nq = W4 at *
                clear ho3 hb3 p30 p31
                go_wp2_with fail
                have p40 : W4.cell? ⟨bP, 0, none⟩ = some (.int .i64 u1) := by simp [World.cell?, hb4.out]
                have p41 : W4.cell? ⟨bP, 1, none⟩ = some (.int .i64 u2) := by simp [World.cell?, hb4.out]
                have hbl : bP < W4.heap.size := (Array.getElem?_eq_some_iff.1 hb4.out).1
                have q40 : ∀ o, (W4.alloc o).cell? ⟨bP, 0, none⟩ = some (.int .i64 u1) := fun o => ((oh0 W4 o).cell (p := ⟨bP, 0, none⟩) hbl).trans p40
                have q41 : ∀ o, (W4.alloc o).cell? ⟨bP, 1, none⟩ = some (.int .i64 u2) := fun o => ((oh0 W4 o).cell (p := ⟨bP, 1, none⟩) hbl).trans p41
                have HSA : Hid (∀ w', Below W4.heap.size W4 w' → SrcG w' (some ⟨gB, 0, none⟩) (pairCells (l.take t)) ∧ SrcG w' (if d = t then some ⟨gB, 0, none⟩ else some ⟨gB, t * 2, none⟩) (pairCells (l.drop t))) := fun w' hbw => by
                  rcases ho4.out.form with ⟨h, _⟩ | ⟨g', hg', _, hgl, hsrc⟩
                  · cases h
                  · injection hg' with hg'
                    injection hg' with hg'
                    subst hg'
                    have h1 := src_take (src_below hsrc hbw (fun a e => by injection e with e; subst e; exact hgl)) (t * 2)
                    have h2 := src_drop (src_below hsrc hbw (fun a e => by injection e with e; subst e; exact hgl)) (t * 2)
                    rw [pairCells_take] at h1
                    rw [pairCells_drop] at h2
                    have hdr : pairCells (l.drop t) = [] := by rw [HTE.out, List.drop_length]; rfl
                    rw [hdr]
                    exact ⟨h1, fun j u hj => by cases hj⟩
                have t4 : (t : Int) ≤ (d : Int) := by omega
                have t5 : (t : Int) ≤ (l.length : Int) := by omega
                go_region_law
                  (first
                    | (refine step_app (o := _) (K := _) (Q := _) (E := _) rfl (.tmp 82) (.tmp 85) Try.underlying35 pair_info rfl (by omega) rfl _ rfl hc6 (by have h1 := hB2.size; have h2 := hB6.size; simp at h1 h2 ⊢; omega) (pairCells (l.drop t)) rfl (by rw [pairCells_len, List.length_drop]) (HSA.out _ hX6).2 (pairs_one _) (by omega) (by unfold maxLen; omega) (l.length + 1) (by omega) ?_
                       intro A7 d7 w7 hc7 hB7; have hX7 : Below W4.heap.size W4 w7 := hX6.trans (hB7.mono (by first | exact (bl1 W4 _).size | exact (bl2 W4 _ _).size)))
                    | (refine step_app (o := _) (K := _) (Q := _) (E := _) rfl (.tmp 79) (.tmp 81) Try.underlying35 pair_info rfl (by omega) rfl _ rfl (by first | exact hc2 | exact cl_alloc hc2 _) (by simp; first | (have := hB2.size; simp at this; omega) | omega) [.int .i64 u1, .int .i64 u2] rfl rfl (by first | exact src_lit (World.alloc_heap_new w2 _) | exact src_lit ((hB2.block _ (hn2 W4 _ _).2).trans (hn2 W4 _ _).1) | exact src_lit ((hB2.block _ (hn1 W4 _ _).2).trans (hn1 W4 _ _).1)) (by simp [Value.oneCell']) (by omega) (by unfold maxLen; omega) (t + 1) rfl ?_
                       intro A6 d6 w6 hc6 hB6; have hX6 : Below W4.heap.size W4 w6 := (by first | exact hX.trans (hB6.mono (bl1 W4 _).size) | exact hX.trans (hB6.mono (bl2 W4 _ _).size) | exact (hX.alloc hX.size _).trans (hB6.mono (bl1 W4 _).size) | exact (hX.alloc hX.size _).trans (hB6.mono (bl2 W4 _ _).size)))
                    | (refine step_app (o := _) (K := _) (Q := _) (E := _) rfl (.tmp 75) (.tmp 78) Try.underlying35 pair_info rfl (by omega) rfl _ rfl (.inl ⟨_, rfl, rfl, rfl⟩) (Nat.le_refl _) (pairCells (l.take t)) rfl (by rw [pairCells_len, List.length_take]; omega) (HSA.out _ (by first | exact bl1 W4 _ | exact bl2 W4 _ _)).1 (pairs_one _) (by omega) (by unfold maxLen; omega) t (by omega) ?_
                       intro A2 d2 w2 hc2 hB2; have hX : Below W4.heap.size W4 w2 := (by first | exact (bl1 W4 _).trans (hB2.mono (bl1 W4 _).size) | exact (bl2 W4 _ _).trans (hB2.mono (bl2 W4 _ _).size)); have q20 := (hX.cell (p := ⟨bP, 0, none⟩) hbl).trans p40; have q21 := (hX.cell (p := ⟨bP, 1, none⟩) hbl).trans p41)
                    | (trace_state; fail))
                all_goals
                  have ho7 := Lib.hid (OutAt.put (p := (u1, u2)) (W := W4) ho4.out.2 (by first | exact (bl1 W4 _).size | exact (bl2 W4 _ _).size) hc7 hX7 hput.out htl)
                  have hs7 : Hid (insS (u1, u2) l = allS (X ++ row.take (j + 1))) := hins.out.symm
                  have hl7 : l.length + 1 = (insS (u1, u2) l).length := by rw [hput.out]; simp; omega
                  clear hc7 hB7 hc6 hB6 hc2 hB2 hX hX6 hX7
                  go_wp2_with fail
                  go_roundw
                  case rel => exact ⟨j + 1, _, d7, insS (u1, u2) l, by omega, by go_num, (by first | rfl | rw [hl7]), hs7, ho7⟩
                  case measure => simp [intOf]; omega
        · obtain rfl : j = row.length := by omega
          have j1 : ¬ ((row.length : Int) < (row.length : Int)) := by omega
          have hs : Hid (l = allS (R.take (m + 1)).flatten) := by show _ = _; rw [hnext.out]; exact hl.out
          clear hl
          go_wp2_with fail
          go_roundw
          case rel => exact ⟨m + 1, B, d, l, by omega, by go_num, rfl, hs, ho⟩
          case measure => simp [intOf]; omega
    · obtain rfl : m = L.length := by omega
      have i1 : ¬ ((L.length : Int) < (L.length : Int)) := by omega
      have e : R.take L.length = R := by rw [← hRl, List.take_length]
      rw [e] at hl
      go_wp2_with fail
      go_ret
      have hl2 := hl.out
      subst hl2
      exact ⟨B, d, rfl, ho.out⟩
end Go.Proofs.Ytmjcipojidimgaa
