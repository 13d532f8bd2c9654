/-
  FOR ShapeRow: how many commits each thread has ended, what its attempt has locked, and stored, as they lie; the walk. Laid by gen/gen_oy.py. Conditions: CheckC.
-/
import Derived.Test.YtnkkakcnlcmikaaDoorOx
import Derived.Test.YtnkkakcnlcmikaaDoorOi
import Derived.Test.YtnkkakcnlcmikaaDoorOu
import Derived.Test.YtnkkakcnlcmikaaDoorSf
import Derived.BigQuiet
import Derived.Deep.CutBlock
import Derived.Deep.DeepCutAuto
namespace Go.Proofs.YtnkkakcnlcmikaaDoor
set_option maxRecDepth 100000
open Go.RowKit Go.Deep
set_option linter.unusedVariables false
set_option linter.unusedSimpArgs false
/-- A list as it lies, above block top. -/
def SlN (w : World) (top : Nat) (A : Option Addr) (L : List Int) : Prop := ∀ k (h : k < L.length), ∃ a, A = some a ∧ top < a.block ∧ a.block < w.heap.size ∧ w.cell? (a.add k) = some (.int .i64 L[k])
theorem SlN.mk' {w w' : World} {top : Nat} {A : Option Addr} {L : List Int} (h : SlN w top A L) (hb : ∀ b, top < b → b < w.heap.size → w'.heap[b]? = w.heap[b]?) (hs : w.heap.size ≤ w'.heap.size) : SlN w' top A L := fun k hk => by
  obtain ⟨a, rfl, h1, h2, h3⟩ := h k hk
  refine ⟨a, rfl, h1, by omega, ?_⟩
  rw [← h3]
  unfold World.cell?
  rw [ad_blockO, hb _ h1 h2]
theorem SlN.nil (w : World) (top : Nat) (A : Option Addr) : SlN w top A [] := fun k hk => absurd hk (by simp)
theorem SlN.ints {w : World} {top : Nat} {A : Option Addr} {L : List Int} (h : SlN w top A L) (hl : L.length ≤ 5000) : IntsO w w.heap.size A L := ⟨by omega, fun k hk => by
  obtain ⟨a, rfl, _, h2, h3⟩ := h k hk
  exact ⟨a, rfl, h2, h3⟩⟩
/-- Six lists, in an array at block g. -/
def Six (w : World) (top g : Nat) (F : Nat → List Int) : Prop := ∃ (A : Nat → Option Addr) (c : Nat → Nat), w.heap[g]? = some (.cells (rowV 6 fun t => .slice (A t) (F t).length (c t)) 54 (0, 0)) ∧ ∀ t, SlN w top (A t) (F t)
theorem Six.mk' {w w' : World} {top g : Nat} {F : Nat → List Int} (h : Six w top g F) (hg : w'.heap[g]? = w.heap[g]?) (hb : ∀ b, top < b → b < w.heap.size → w'.heap[b]? = w.heap[b]?) (hs : w.heap.size ≤ w'.heap.size) : Six w' top g F := by
  obtain ⟨A, c, h1, h2⟩ := h
  exact ⟨A, c, hg.trans h1, fun t => (h2 t).mk' hb hs⟩
theorem Six.below {w w' : World} {top g : Nat} {F : Nat → List Int} (h : Six w top g F) (hb : Below w.heap.size w w') : Six w' top g F := by
  obtain ⟨A, c, h1, h2⟩ := h
  exact Six.mk' ⟨A, c, h1, h2⟩ (hb.block g (Array.getElem?_eq_some_iff.1 h1).1) (fun b _ h => hb.block b h) hb.size
theorem Six.put {w : World} {top g t : Nat} {F F' : Nat → List Int} {A' : Option Addr} {c' n : Nat} (h : Six w top g F) (hg : g ≤ top) (ht : t < 6) (hn : n = (F' t).length) (hA : SlN w top A' (F' t)) (hF : ∀ u, u ≠ t → F' u = F u) : Six (w.setCell ⟨g, t, none⟩ (.slice A' n c')) top g F' := by
  obtain ⟨A, c, h1, h2⟩ := h
  subst hn
  refine ⟨fun u => if u = t then A' else A u, fun u => if u = t then c' else c u, ?_, fun u => ?_⟩
  · rw [hset_same _ _ _ _ _ _ h1, rowV_set (c' := fun u => .slice (if u = t then A' else A u) (F' u).length (if u = t then c' else c u)) ht _ (by simp) (fun j _ hj => by simp [hj, hF j hj])]
  · have hS : SlN w top (if u = t then A' else A u) (F' u) := by
      by_cases hu : u = t
      · subst hu; rw [if_pos rfl]; exact hA
      · rw [if_neg hu, hF u hu]; exact h2 u
    exact hS.mk' (fun b h3 _ => hset_other _ _ _ _ _ (by omega)) (by simp)
/-- All that the walk keeps. -/
structure RowSt (W3 w : World) (g : Nat) (q : Sh) (i : Nat) : Prop where
  b : Below g W3 w
  cm : w.heap[g]? = some (.cells (rowV 6 fun t => .int .i64 (q.com t)) 50 (0, 0))
  lk : Six w (g + 2) (g + 1) fun t => (q.att t).lk
  st : Six w (g + 2) (g + 2) fun t => (q.att t).st
  li : ∀ t : Nat, (q.att t).lk.length ≤ i ∧ (q.att t).st.length ≤ i
section
variable {W3 w w' : World} {g i : Nat} {q : Sh}
theorem RowSt.below (h : RowSt W3 w g q i) (hb : Below w.heap.size w w') : RowSt W3 w' g q i := by
  have hg := (Array.getElem?_eq_some_iff.1 h.cm).1
  exact ⟨h.b.trans (hb.mono (by omega)), (hb.block g hg).trans h.cm, h.lk.below hb, h.st.below hb, h.li⟩
theorem RowSt.gt (h : RowSt W3 w g q i) : g + 2 < w.heap.size := by
  obtain ⟨A, c, h1, _⟩ := h.st
  exact (Array.getElem?_eq_some_iff.1 h1).1
theorem RowSt.next (h : RowSt W3 w g q i) {q' : Sh} (h1 : q'.com = q.com) (h2 : ∀ t : Nat, (q'.att t).lk = (q.att t).lk ∧ (q'.att t).st = (q.att t).st) : RowSt W3 w g q' (i + 1) := by
  have e1 : (fun t : Nat => (q'.att t).lk) = fun t : Nat => (q.att t).lk := funext fun t => (h2 t).1
  have e2 : (fun t : Nat => (q'.att t).st) = fun t : Nat => (q.att t).st := funext fun t => (h2 t).2
  exact ⟨h.b, by rw [h1]; exact h.cm, by rw [e1]; exact h.lk, by rw [e2]; exact h.st, fun t => by have := h.li t; rw [(h2 t).1, (h2 t).2]; omega⟩
theorem rowV_upd {t : Nat} (ht : t < 6) (f : Int → Int) (v : Int) : (rowV 6 fun u => Value.int .i64 (f u)).setIfInBounds t (.int .i64 v) = rowV 6 fun u => .int .i64 (updF f t v u) :=
  rowV_set ht _ (by simp [updF]) (fun j _ hj => by rw [updF_other (by omega)])
/-- A commit more. -/
theorem RowSt.com (h : RowSt W3 w g q i) {q' : Sh} {t : Nat} (ht : t < 6) (v : Int) (h1 : q'.com = updF q.com t v) (h2 : ∀ t : Nat, (q'.att t).lk = (q.att t).lk ∧ (q'.att t).st = (q.att t).st) : RowSt W3 (w.setCell ⟨g, t, none⟩ (.int .i64 v)) g q' (i + 1) := by
  have e1 : (fun t : Nat => (q'.att t).lk) = fun t : Nat => (q.att t).lk := funext fun t => (h2 t).1
  have e2 : (fun t : Nat => (q'.att t).st) = fun t : Nat => (q.att t).st := funext fun t => (h2 t).2
  refine ⟨h.b.setCell (p := ⟨g, t, none⟩) (Nat.le_refl _) _, ?_, ?_, ?_, fun t => by have := h.li t; rw [(h2 t).1, (h2 t).2]; omega⟩
  · rw [hset_same _ _ _ _ _ _ h.cm, rowV_upd ht, h1]
  · rw [e1]
    exact h.lk.mk' (hset_other _ _ _ _ _ (by omega)) (fun b hb _ => hset_other _ _ _ _ _ (by omega)) (by simp)
  · rw [e2]
    exact h.st.mk' (hset_other _ _ _ _ _ (by omega)) (fun b hb _ => hset_other _ _ _ _ _ (by omega)) (by simp)
/-- A list in another one's place. -/
theorem RowSt.lkPut (h : RowSt W3 w g q i) {q' : Sh} {t n c' k : Nat} {A' : Option Addr} {L' : List Int} (ht : t < 6) (hn : n = L'.length) (hA : SlN w (g + 2) A' L') (h1 : q'.com = q.com) (hl : (q'.att t).lk = L') (hk : L'.length ≤ k) (hik : i ≤ k) (h2 : ∀ u : Nat, (u ≠ t → (q'.att u).lk = (q.att u).lk) ∧ (q'.att u).st = (q.att u).st) : RowSt W3 (w.setCell ⟨g + 1, t, none⟩ (.slice A' n c')) g q' k := by
  have e2 : (fun t : Nat => (q'.att t).st) = fun t : Nat => (q.att t).st := funext fun t => (h2 t).2
  refine ⟨h.b.setCell (p := ⟨g + 1, t, none⟩) (by show g ≤ g + 1; omega) _, ?_, h.lk.put (by omega) ht (by rw [hl]; exact hn) (by rw [hl]; exact hA) (fun u hu => (h2 u).1 hu), ?_, fun u => ?_⟩
  · rw [hset_other _ _ _ _ _ (by omega), h1]; exact h.cm
  · rw [e2]
    exact h.st.mk' (hset_other _ _ _ _ _ (by omega)) (fun b hb _ => hset_other _ _ _ _ _ (by omega)) (by simp)
  · have := h.li u
    by_cases hu : u = t
    · subst hu; rw [hl, (h2 u).2]; omega
    · rw [(h2 u).1 hu, (h2 u).2]; omega
theorem RowSt.stPut (h : RowSt W3 w g q i) {q' : Sh} {t n c' k : Nat} {A' : Option Addr} {L' : List Int} (ht : t < 6) (hn : n = L'.length) (hA : SlN w (g + 2) A' L') (h1 : q'.com = q.com) (hl : (q'.att t).st = L') (hk : L'.length ≤ k) (hik : i ≤ k) (h2 : ∀ u : Nat, (u ≠ t → (q'.att u).st = (q.att u).st) ∧ (q'.att u).lk = (q.att u).lk) : RowSt W3 (w.setCell ⟨g + 2, t, none⟩ (.slice A' n c')) g q' k := by
  have e2 : (fun t : Nat => (q'.att t).lk) = fun t : Nat => (q.att t).lk := funext fun t => (h2 t).2
  refine ⟨h.b.setCell (p := ⟨g + 2, t, none⟩) (by show g ≤ g + 2; omega) _, ?_, ?_, h.st.put (by omega) ht (by rw [hl]; exact hn) (by rw [hl]; exact hA) (fun u hu => (h2 u).1 hu), fun u => ?_⟩
  · rw [hset_other _ _ _ _ _ (by omega), h1]; exact h.cm
  · rw [e2]
    exact h.lk.mk' (hset_other _ _ _ _ _ (by omega)) (fun b hb _ => hset_other _ _ _ _ _ (by omega)) (by simp)
  · have := h.li u
    by_cases hu : u = t
    · subst hu; rw [hl, (h2 u).2]; omega
    · rw [(h2 u).1 hu, (h2 u).2]; omega
/-- What is read of it. -/
theorem RowSt.cmC (h : RowSt W3 w g q i) {t : Nat} (ht : t < 6) : w.cell? ⟨g, t, none⟩ = some (.int .i64 (q.com t)) := by rw [cell_of_row w g t _ _ _ h.cm, rowV_get _ _ ht]
theorem Six.get {top g t : Nat} {F : Nat → List Int} (h : Six w top g F) (ht : t < 6) : ∃ A c, w.cell? ⟨g, t, none⟩ = some (.slice A (F t).length c) ∧ w.frozen? ⟨g, t, none⟩ = false ∧ SlN w top A (F t) := by
  obtain ⟨A, c, h1, h2⟩ := h
  exact ⟨A t, c t, by rw [cell_of_row w g t _ _ _ h1, rowV_get _ _ ht], frozen_of_row w g t _ _ h1, h2 t⟩
end
/-- No lock is kept of a thread. -/
def noLk (q : Sh) (t : Nat) : Sh := { q with att := updF q.att t { q.att t with lk := [] } }
theorem noLk_same (q : Sh) (t : Nat) : ((noLk q t).att t).lk = [] := by
  show (updF q.att t _ t).lk = _
  rw [updF_same]
theorem noLk_other (q : Sh) {t u : Nat} (h : u ≠ t) : (noLk q t).att u = q.att u := updF_other (by omega)
theorem noLk_st (q : Sh) (t u : Nat) : ((noLk q t).att u).st = (q.att u).st := by
  by_cases h : u = t
  · subst h
    show (updF q.att u _ u).st = _
    rw [updF_same]
  · rw [noLk_other q h]
theorem RowSt.noneL {W3 w : World} {g i : Nat} {q q' : Sh} {t : Nat} (h : RowSt W3 w g q i) (ht : t < 6) (h1 : q'.com = q.com) (hl : (q'.att t).lk = []) (hs : (q'.att t).st = []) (ho : ∀ u : Nat, (t : Int) ≠ u → q'.att u = q.att u) : RowSt W3 ((w.setCell ⟨g + 1, t, none⟩ (.slice none 0 0)).setCell ⟨g + 2, t, none⟩ (.slice none 0 0)) g q' (i + 1) := by
  have h2 : RowSt W3 (w.setCell ⟨g + 1, t, none⟩ (.slice none 0 0)) g (noLk q t) i := h.lkPut (L' := []) ht rfl (SlN.nil _ _ _) rfl (noLk_same q t) (by simp) (Nat.le_refl _) (fun u => ⟨fun hu => by rw [noLk_other q hu], noLk_st q t u⟩)
  refine h2.stPut (L' := []) ht rfl (SlN.nil _ _ _) h1 hs (by simp) (by omega) (fun u => ⟨fun hu => ?_, ?_⟩)
  · rw [ho u (by omega), noLk_other q hu]
  · by_cases hu : u = t
    · subst hu
      rw [hl, noLk_same]
    · rw [ho u (by omega), noLk_other q hu]
theorem SlN.own {w : World} {base top k c : Nat} {A : Option Addr} {L : List Int} (h : w.ownsRow base 3 1 (.slice A k c) k (vIO L)) (hb : top < base) (hk : L.length = k) (hk2 : k ≤ 100000) : SlN w top A L := fun j hj => by
  have h1 := (SlO.own h hk hk2).ints
  obtain ⟨a, rfl, h2, h3⟩ := h1.cell j hj
  have := own_far h a rfl
  exact ⟨a, rfl, by omega, h2, h3⟩
theorem three_0 (w : World) (o1 o2 o3 : Obj) : (((w.alloc o1).alloc o2).alloc o3).heap[w.heap.size]? = some o1 :=
  (((Below.refl _ _).alloc (Nat.le_refl _) o3).block w.heap.size (by simp; omega)).trans ((((Below.refl _ _).alloc (Nat.le_refl _) o2).block w.heap.size (by simp)).trans (heap_alloc_new w _))
theorem three_1 (w : World) (o1 o2 o3 : Obj) : (((w.alloc o1).alloc o2).alloc o3).heap[w.heap.size + 1]? = some o2 := by
  refine (((Below.refl _ _).alloc (Nat.le_refl _) o3).block (w.heap.size + 1) (by simp)).trans ?_
  have := heap_alloc_new (w.alloc o1) o2
  simpa using this
theorem three_2 (w : World) (o1 o2 o3 : Obj) : (((w.alloc o1).alloc o2).alloc o3).heap[w.heap.size + 2]? = some o3 := by
  have := heap_alloc_new ((w.alloc o1).alloc o2) o3
  simpa using this
theorem three_eq (w : World) : ((w.alloc (.cells (rowV 6 fun t => .int .i64 (sh0.com t)) 50)).alloc (.cells (rowV 6 fun t => .slice none (sh0.att t).lk.length 0) 54)).alloc (.cells (rowV 6 fun t => .slice none (sh0.att t).st.length 0) 54) = ((w.alloc (.cells #[.int .i64 0, .int .i64 0, .int .i64 0, .int .i64 0, .int .i64 0, .int .i64 0] 50)).alloc (.cells #[.slice none 0 0, .slice none 0 0, .slice none 0 0, .slice none 0 0, .slice none 0 0, .slice none 0 0] 54)).alloc (.cells #[.slice none 0 0, .slice none 0 0, .slice none 0 0, .slice none 0 0, .slice none 0 0, .slice none 0 0] 54) := rfl

def hasB (L : List Int) (k : Nat) (z : Int) : Bool := (L.take k).any fun x => x == z
def hasM (S : Int) (L : List Int) (k : Nat) (z : Int) : Bool := (L.take k).any fun x => x % S == z
theorem hasB_next {L : List Int} {k : Nat} (h : k < L.length) (z : Int) : hasB L (k + 1) z = (hasB L k z || (L[k] == z)) := by
  unfold hasB
  rw [List.take_succ_eq_append_getElem h, List.any_append]
  simp
theorem hasM_next {S : Int} {L : List Int} {k : Nat} (h : k < L.length) (z : Int) : hasM S L (k + 1) z = (hasM S L k z || (L[k] % S == z)) := by
  unfold hasM
  rw [List.take_succ_eq_append_getElem h, List.any_append]
  simp
theorem hasB_all {L : List Int} {z : Int} (h : z ∈ L) : hasB L L.length z = true := by
  unfold hasB
  rw [List.take_length, List.any_eq_true]
  exact ⟨z, h, by simp⟩
theorem hasM_all {S : Int} {L : List Int} {z : Int} (h : ∃ x ∈ L, x % S = z) : hasM S L L.length z = true := by
  unfold hasM
  rw [List.take_length, List.any_eq_true]
  obtain ⟨x, h1, h2⟩ := h
  exact ⟨x, h1, by simp [h2]⟩
theorem tmod_pos {a b : Nat} (hb : 0 < b) : (a : Int).tmod (b : Int) = ((a % b : Nat) : Int) := by
  rw [Int.tmod_eq_emod_of_nonneg (by omega)]
  omega
theorem lastL_snoc {L : List Int} {m : Nat} (h : L.length = m + 1) : L[m]? = some (lastL L) := by
  have hne : L ≠ [] := fun hn => by subst hn; simp at h
  have := lastL_at hne
  rwa [show L.length - 1 = m by omega] at this
set_option maxHeartbeats 16000000 in
theorem row_walk {Tb : World → Prop} (HC : CheckC Tb) (w : World) (ht : Tb w) (T V S : Int) (A : Option Addr) (L : List Ev) (c : Nat) (hT : i64P T) (hV : i64P V) (hS : i64P S) (hl : L.length ≤ 9223372036854775807) (he : EvsAt w w.heap.size A L) :
    Calls Tryd.prog 9 #[trV T V S A L.length c] w (Yes w) := by
  have HW : Hid (∀ w1, Below w.heap.size w w1 → Calls Tryd.prog 10 #[] w1 fun r w' => r = .returned (.bool true) ∧ Below w1.heap.size w1 w') := fun w1 hb => works_any HC w1 (HC.below w w1 ht hb)
  have HF : Hid (L.length ≤ 2000 → ∀ w1, Below w.heap.size w w1 → Calls Tryd.prog 20 #[trV T V S A L.length c] w1 fun r w' => r = .returned (.bool (fineB T V S L)) ∧ Below w1.heap.size w1 w') := fun h w1 hb => fine_any HC w1 (HC.below w w1 ht hb) T V S A L c hT hV hS h ((he.below hb (Nat.le_refl _)).mono hb.size)
  obtain ⟨n, hn⟩ : ∃ n, n = L.length := ⟨_, rfl⟩
  have HE := Lib.hid he
  rw [← hn] at HF hl ⊢
  unfold trV at HF ⊢
  have HN := Lib.hid hn
  clear ht hT hV he HC hn
  by_cases h2 : 2000 < n
  · have i1 : (2000 : Int) < (n : Int) := by omega
    clear h2 hl HF
    go_enter Tryd.func9, Tryd.ntmps9
    go_wp2_with fail
    have h0 : Below w.heap.size w (w.alloc (.cells #[.int .i64 T, .int .i64 V, .int .i64 S, .slice A n c] 35)) := (Below.refl _ _).alloc (Nat.le_refl _) _
    refine (HW.out _ h0).mono ?_
    rintro _ w1 ⟨rfl, b1⟩
    have x3 : w1.cell? ⟨w.heap.size, 3, none⟩ = some (.slice A n c) := (b1.cell (by simp)).trans (World.cell?_alloc_mark w #[.int .i64 T, .int .i64 V, .int .i64 S, .slice A n c] 35 (0, 0) 3)
    have B1 : Hid (Below w.heap.size w w1) := h0.trans (b1.mono h0.size)
    clear b1 h0
    go_wp2_with fail
    refine (HW.out _ B1.out).mono ?_
    rintro _ w2 ⟨rfl, b2⟩
    have B2 : Hid (Below w.heap.size w w2) := B1.out.trans (b2.mono B1.out.size)
    clear b2 x3
    go_wp2_with fail
    go_ret
    exact ⟨rfl, B2.out⟩
  · have i1 : (n : Int) ≤ 2000 := by omega
    have HF2 := Lib.hid (HF.out (by omega))
    clear HF
    obtain ⟨b, hb⟩ : ∃ b, b = fineB T V S L := ⟨_, rfl⟩
    rw [← hb] at HF2
    have HB := Lib.hid hb
    clear hb
    go_enter Tryd.func9, Tryd.ntmps9
    go_wp2_with fail
    have h0 : Below w.heap.size w (w.alloc (.cells #[.int .i64 T, .int .i64 V, .int .i64 S, .slice A n c] 35)) := (Below.refl _ _).alloc (Nat.le_refl _) _
    refine (HW.out _ h0).mono ?_
    rintro _ w1 ⟨rfl, b1⟩
    have r1 : w1.heap[w.heap.size]? = some (.cells #[.int .i64 T, .int .i64 V, .int .i64 S, .slice A n c] 35 (0, 0)) := (b1.block _ (by simp)).trans (heap_alloc_new w _)
    have x0 := cell_of_row w1 _ 0 _ _ _ r1
    have x1 := cell_of_row w1 _ 1 _ _ _ r1
    have x2 := cell_of_row w1 _ 2 _ _ _ r1
    have x3 := cell_of_row w1 _ 3 _ _ _ r1
    simp only [List.getElem?_toArray, List.getElem?_cons_zero, List.getElem?_cons_succ] at x0 x1 x2 x3
    have B1 : Hid (Below w.heap.size w w1) := h0.trans (b1.mono h0.size)
    have R1 := Lib.hid r1
    clear b1 h0 r1
    go_wp2_with fail
    refine (HF2.out _ B1.out).mono ?_
    rintro _ w2 ⟨rfl, b2⟩
    have B2 : Hid (Below w.heap.size w w2) := B1.out.trans (b2.mono B1.out.size)
    have R2 : Hid (w2.heap[w.heap.size]? = some (.cells #[.int .i64 T, .int .i64 V, .int .i64 S, .slice A n c] 35 (0, 0))) := row_stays R1.out b2
    clear b2 x0 x1 x2 x3 R1 HF2
    by_cases hbt : b = false
    · subst hbt
      go_wp2_with fail
      go_ret
      exact ⟨rfl, B2.out⟩
    · obtain rfl : b = true := by simpa using hbt
      obtain ⟨hsz, _, hfine⟩ := fine_iff.1 (of_decide_eq_true HB.out.symm : checkF T V S L = (L.length, 0))
      have HFI := Lib.hid hfine
      simp only [size13, Bool.and_eq_true, decide_eq_true_eq] at hsz
      obtain ⟨sn, rfl⟩ : ∃ sn : Nat, S = sn := ⟨S.toNat, by omega⟩
      have hs1 : 1 ≤ sn := by omega
      have hs32 : sn ≤ 32 := by omega
      have hT6 : T ≤ 6 := by omega
      clear hbt hfine HB hsz hS
      go_wp2_with fail
      obtain ⟨g, hg⟩ : ∃ g, g = w2.heap.size := ⟨_, rfl⟩
      obtain ⟨W3, hW3⟩ : ∃ W3, W3 = ((w2.alloc (.cells (rowV 6 fun t => .int .i64 (sh0.com t)) 50)).alloc (.cells (rowV 6 fun t => .slice none (sh0.att t).lk.length 0) 54)).alloc (.cells (rowV 6 fun t => .slice none (sh0.att t).st.length 0) 54) := ⟨_, rfl⟩
      have hlt1 : w.heap.size < g := by rw [hg]; exact (Array.getElem?_eq_some_iff.1 R2.out).1
      have R0 : Hid (RowSt W3 W3 g (behind sn (L.take 0)) 0) := by
        rw [List.take_zero]
        show RowSt W3 W3 g sh0 0
        refine ⟨Below.refl _ _, ?_, ⟨fun _ => none, fun _ => 0, ?_, fun t => SlN.nil _ _ _⟩, ⟨fun _ => none, fun _ => 0, ?_, fun t => SlN.nil _ _ _⟩, fun t => ⟨Nat.le_refl _, Nat.le_refl _⟩⟩
        · rw [hW3, hg]; exact three_0 w2 _ _ _
        · rw [hW3, hg]; exact three_1 w2 _ _ _
        · rw [hW3, hg]; exact three_2 w2 _ _ _
      have b3 : Below g w2 W3 := by rw [hW3, hg]; exact (((Below.refl _ _).alloc (Nat.le_refl _) _).alloc (by simp) _).alloc (by simp; omega) _
      have R3 : Hid (W3.heap[w.heap.size]? = some (.cells #[.int .i64 T, .int .i64 V, .int .i64 sn, .slice A n c] 35 (0, 0))) := row_staysN R2.out b3 hlt1
      have B3 : Hid (Below w.heap.size w W3) := B2.out.trans (b3.mono (by omega))
      rw [three_eq] at hW3
      rw [← hW3, show w2.heap.size + 1 + 1 = g + 2 by omega, show w2.heap.size + 1 = g + 1 by omega, ← hg]
      clear hW3 b3 B2 R2 hg HW
      go_loopw [6] (fun iv wr => ∃ i : Nat, i ≤ n ∧ iv = .int .i64 i ∧ Hid (RowSt W3 wr g (behind sn (L.take i)) i)) (fun iv _ => n - (intOf iv).toNat)
      case atStart => exact ⟨0, by omega, rfl, R0⟩
      case round =>
        obtain ⟨i, hi, rfl, hrow⟩ := hrel
        have rt := row_staysN R3.out hrow.out.b hlt1
        have x2 := cell_of_row wr _ 2 _ _ _ rt
        have x3 := cell_of_row wr _ 3 _ _ _ rt
        simp only [List.getElem?_toArray, List.getElem?_cons_zero, List.getElem?_cons_succ] at x2 x3
        have BW : Hid (Below w.heap.size w wr) := B3.out.trans (hrow.out.b.mono (by omega))
        by_cases hlt : i < n
        · obtain ⟨a, rfl, ha, hev⟩ := HE.out i (by rw [← HN.out]; exact hlt)
          have hev := hev.below BW.out (by rw [add_blockO]; exact ha)
          have hm := HFI.out i _ (nthE_of (by rw [← HN.out]; exact hlt))
          have hI := fine_inv HFI.out i (by rw [← HN.out]; exact hi)
          have hnx := behind_next (S := sn) (nthE_of (L := L) (i := i) (by rw [← HN.out]; exact hlt))
          have hcb := com_bound13 HFI.out (nthE L i).th i (by rw [← HN.out]; exact hi)
          obtain ⟨q, hq⟩ : ∃ q, q = behind sn (L.take i) := ⟨_, rfl⟩
          rw [← hq] at hm hI hnx hrow hcb
          obtain ⟨f1, f4, f8, f9, fc, fl, fs⟩ := row_event hI hm
          obtain ⟨_, hth, hk⟩ := (may_iff _ _ _ _).1 (may13 hm).1
          have hk13 : (1 ≤ (nthE L i).kd ∧ (nthE L i).kd ≤ 13) ∧ 0 ≤ (nthE L i).pl := by unfold MayK at hk; omega
          have hother : ∀ u : Nat, (nthE L i).th ≠ u → ((stepS sn q (nthE L i)).att u) = q.att u := fun u hu => updF_other (by omega)
          obtain ⟨c0, c1, c2, c3, c4, c5, c6, hok⟩ := hev
          generalize nthE L i = e at *
          obtain ⟨kd, th, tx, pl, v, x, why⟩ := e
          simp only at c0 c1 c2 c3 c4 c5 c6 f1 f4 f8 f9 fc fl fs hk13 hth hcb hother
          obtain ⟨t, rfl⟩ : ∃ t : Nat, th = t := ⟨th.toNat, by omega⟩
          have ht6 : t < 6 := by omega
          have it0 : (0 : Int) ≤ (t : Int) := by omega
          have it1 : (t : Int) < 6 := by omega
          have hii : (i : Int) < (n : Int) := by omega
          have HQ := Lib.hid hnx
          have HO := Lib.hid hother
          have HOTH : Hid (∀ q', q' = stepS sn q ⟨kd, t, tx, pl, v, x, why⟩ → (kd ≠ 1 → kd ≠ 4 → kd ≠ 8 → ∀ u : Nat, (q'.att u).lk = (q.att u).lk ∧ (q'.att u).st = (q.att u).st)) := by
            rintro q' rfl k1 k4 k8 u
            by_cases hu : (t : Int) = u
            · rw [← hu]
              refine ⟨?_, ?_⟩
              · have := fl; rw [if_neg k1, if_neg k4] at this; exact this
              · have := fs; rw [if_neg k1, if_neg k8] at this; exact this
            · rw [hother u hu]; exact ⟨rfl, rfl⟩
          have FC := Lib.hid fc
          have FL := Lib.hid fl
          have FS := Lib.hid fs
          have HR5 : Hid (∀ o : Obj, RowSt W3 (wr.alloc o) g q i) := fun o => hrow.out.below ((Below.refl _ _).alloc (Nat.le_refl _) _)
          have HX : Hid (∀ o : Obj, (wr.alloc o).heap[w.heap.size]? = some (.cells #[.int .i64 T, .int .i64 V, .int .i64 sn, .slice (some a) n c] 35 (0, 0))) := fun o => row_stays rt ((Below.refl _ wr).alloc (Nat.le_refl _) o)
          clear hq hI hm rt hnx ha hok hth hk fc fl fs hother
          have hks : kd = 1 ∨ kd = 2 ∨ kd = 3 ∨ kd = 4 ∨ kd = 5 ∨ kd = 6 ∨ kd = 7 ∨ kd = 8 ∨ kd = 9 ∨ kd = 10 ∨ kd = 11 ∨ kd = 12 ∨ kd = 13 := by omega
          rcases hks with rfl | rfl | rfl | rfl | rfl | rfl | rfl | rfl | rfl | rfl | rfl | rfl | rfl
          · as_aux_lemma =>
            have e1 : (tx != q.com t) = false := by rw [f1 rfl]; simp
            clear f1 f4 f8 f9
            go_wp2_with fail
            obtain ⟨W5, hW5⟩ : ∃ W5, W5 = wr.alloc (.cells #[.int .u8 1, .int .i64 t, .int .i64 tx, .int .i64 pl, .int .i64 v, .int .i64 x, .int .u8 why] 27) := ⟨_, rfl⟩
            have ge5 : W5.heap[wr.heap.size]? = some (.cells #[.int .u8 1, .int .i64 t, .int .i64 tx, .int .i64 pl, .int .i64 v, .int .i64 x, .int .u8 why] 27) := by rw [hW5]; exact heap_alloc_new wr _
            have r5 := HR5.out (.cells #[.int .u8 1, .int .i64 t, .int .i64 tx, .int .i64 pl, .int .i64 v, .int .i64 x, .int .u8 why] 27)
            have xt5 := HX.out (.cells #[.int .u8 1, .int .i64 t, .int .i64 tx, .int .i64 pl, .int .i64 v, .int .i64 x, .int .u8 why] 27)
            rw [← hW5] at r5 xt5 ⊢
            have xs5 := cell_of_row W5 _ 2 _ _ _ xt5
            have ce2 := cell_of_row W5 _ 2 _ _ _ ge5
            simp only [List.getElem?_toArray, List.getElem?_cons_zero, List.getElem?_cons_succ] at xs5 ce2
            have GE5 := Lib.hid ge5
            have R5 := Lib.hid r5
            have hz5 : wr.heap.size < W5.heap.size := (Array.getElem?_eq_some_iff.1 ge5).1
            have HZ5 := Lib.hid hz5
            clear hW5 ge5 r5 xt5 hz5
            have ccm := R5.out.cmC ht6
            obtain ⟨A1, k1, cl1, fz1, _⟩ := R5.out.lk.get ht6
            obtain ⟨A2, k2, cl2, fz2, _⟩ := R5.out.st.get ht6
            have hcom : Hid ((stepS sn q ⟨1, t, tx, pl, v, x, why⟩).com = q.com) := by show _ = _; rw [FC.out, if_neg (by omega)]
            go_quiet (fail)
            clear ccm
            go_wp2_with fail
            have R6 : Hid (∀ m, RowSt W3 (W5.drewN m) g q i) := fun m => R5.out.below (drewN_belowW W5 m)
            have hl : Hid (((stepS sn q ⟨1, t, tx, pl, v, x, why⟩).att t).lk = []) := by show _ = _; simpa using FL.out
            have hs : Hid (((stepS sn q ⟨1, t, tx, pl, v, x, why⟩).att t).st = []) := by show _ = _; simpa using FS.out
            refine ⟨?_, ?measure⟩
            · exact ⟨i + 1, by omega, by go_num, by rw [HQ.out]; exact (R6.out _).noneL ht6 hcom.out hl.out hs.out HO.out⟩
            case measure => simp [intOf]; omega
          · as_aux_lemma =>
            have hcom : Hid ((stepS sn q ⟨2, t, tx, pl, v, x, why⟩).com = q.com) := by show _ = _; rw [FC.out, if_neg (by omega)]
            clear f1 f4 f8 f9
            go_wp2_with fail
            refine ⟨?_, ?measure⟩
            · exact ⟨i + 1, by omega, by go_num, by rw [HQ.out]; exact (HR5.out _).next hcom.out (HOTH.out _ rfl (by decide) (by decide) (by decide))⟩
            case measure => simp [intOf]; omega
          · as_aux_lemma =>
            have hcom : Hid ((stepS sn q ⟨3, t, tx, pl, v, x, why⟩).com = q.com) := by show _ = _; rw [FC.out, if_neg (by omega)]
            clear f1 f4 f8 f9
            go_wp2_with fail
            refine ⟨?_, ?measure⟩
            · exact ⟨i + 1, by omega, by go_num, by rw [HQ.out]; exact (HR5.out _).next hcom.out (HOTH.out _ rfl (by decide) (by decide) (by decide))⟩
            case measure => simp [intOf]; omega
          · as_aux_lemma =>
            have hlt4 := f4 rfl
            have hcom : Hid ((stepS sn q ⟨4, t, tx, pl, v, x, why⟩).com = q.com) := by show _ = _; rw [FC.out, if_neg (by omega)]
            have hl : Hid (((stepS sn q ⟨4, t, tx, pl, v, x, why⟩).att t).lk = (q.att t).lk ++ [pl]) := by show _ = _; simpa using FL.out
            have hs : Hid (∀ u : Nat, ((stepS sn q ⟨4, t, tx, pl, v, x, why⟩).att u).st = (q.att u).st) := fun u => by
              by_cases hu : (t : Int) = u
              · rw [← hu]; simpa using FS.out
              · rw [HO.out u hu]
            clear f1 f4 f8 f9
            go_wp2_with fail
            obtain ⟨W5, hW5⟩ : ∃ W5, W5 = wr.alloc (.cells #[.int .u8 4, .int .i64 t, .int .i64 tx, .int .i64 pl, .int .i64 v, .int .i64 x, .int .u8 why] 27) := ⟨_, rfl⟩
            have ge5 : W5.heap[wr.heap.size]? = some (.cells #[.int .u8 4, .int .i64 t, .int .i64 tx, .int .i64 pl, .int .i64 v, .int .i64 x, .int .u8 why] 27) := by rw [hW5]; exact heap_alloc_new wr _
            have r5 := HR5.out (.cells #[.int .u8 4, .int .i64 t, .int .i64 tx, .int .i64 pl, .int .i64 v, .int .i64 x, .int .u8 why] 27)
            have xt5 := HX.out (.cells #[.int .u8 4, .int .i64 t, .int .i64 tx, .int .i64 pl, .int .i64 v, .int .i64 x, .int .u8 why] 27)
            rw [← hW5] at r5 xt5 ⊢
            have xs5 := cell_of_row W5 _ 2 _ _ _ xt5
            have ce3 := cell_of_row W5 _ 3 _ _ _ ge5
            simp only [List.getElem?_toArray, List.getElem?_cons_zero, List.getElem?_cons_succ] at xs5 ce3
            have GE5 := Lib.hid ge5
            have R5 := Lib.hid r5
            have hz5 : wr.heap.size < W5.heap.size := (Array.getElem?_eq_some_iff.1 ge5).1
            have HZ5 := Lib.hid hz5
            clear hW5 ge5 r5 xt5 hz5
            obtain ⟨A1, k1, cl1, fz1, hs1⟩ := R5.out.lk.get ht6
            have hli := (R5.out.li t).1
            obtain ⟨L1, hL1⟩ : ∃ L1, L1 = (q.att t).lk := ⟨_, rfl⟩
            rw [← hL1] at cl1 hs1 hlt4 hli
            have HL1 := Lib.hid hL1
            have H1 := Lib.hid hs1
            have HI := Lib.hid hli
            obtain ⟨m, hm⟩ : ∃ m, m = L1.length := ⟨_, rfl⟩
            have HM := Lib.hid hm
            rw [← hm] at cl1 hli
            have hm5 : m ≤ 2000 := by omega
            clear hL1 hs1
            by_cases h0 : m = 0
            · subst h0
              clear hm hlt4 hli
              go_quiet (fail)
              go_wp2_with fail
              refine regR20 rfl _ (by exact Nat.le_of_ble_eq_true rfl) _ (g + 1) wr.heap.size _ _ t ht6 _ pl L1 (by have := R5.out.gt; exact (by omega : g + 1 < W5.heap.size)) (by exact cl1) (by exact fz1) (by exact ce3) (by exact (SlN.ints (w := W5) H1.out (by have := HM.out; omega)).belowO (drewN_belowW W5 _) (Nat.le_refl _)) (by exact HZ5.out) HM.out.symm (by omega) rfl rfl rfl ?_
              intro y0 y1 y2 y3 y4 y5 y6 y7 y8 A' c' w6 b6 own6
              simp only [regR20_ds, putAll, List.setIfInBounds_toArray, List.set_cons_succ, List.set_cons_zero]
              have hsz6 := R5.out.gt
              have R6 : Hid (RowSt W3 w6 g q i) := (R5.out.below (drewN_belowW W5 _)).below b6
              have S6 : Hid (SlN w6 (g + 2) A' (L1 ++ [pl])) := SlN.own own6 (by exact hsz6) (by have := HM.out; rw [List.length_append]; simp only [List.length_cons, List.length_nil]; omega) (by omega)
              have B6 : Hid (Below W5.heap.size W5 w6) := (drewN_belowW W5 _).trans b6
              clear own6 b6 cl1 fz1 hsz6
              go_wp2_with fail
              refine ⟨?_, ?measure⟩
              · exact ⟨i + 1, by omega, by go_num, by rw [HQ.out]; exact R6.out.lkPut ht6 (by have := HM.out; rw [List.length_append]; simp only [List.length_cons, List.length_nil]; omega) S6.out hcom.out (by rw [hl.out, HL1.out]) (by have := HI.out; rw [List.length_append]; simp only [List.length_cons, List.length_nil]; omega) (by omega) (fun u => ⟨fun hu => by rw [HO.out u (by omega)], hs.out u⟩)⟩
              case measure => simp [intOf]; omega
            · obtain ⟨m', rfl⟩ : ∃ m', m = m' + 1 := ⟨m - 1, by omega⟩
              obtain ⟨a1, rfl, _, _, cz⟩ := H1.out m' (by omega)
              obtain ⟨z, hz⟩ : ∃ z, z = L1[m']'(by omega) := ⟨_, rfl⟩
              rw [← hz] at cz
              have hzl : z = lastL L1 := by
                have h1 := lastL_snoc (L := L1) (m := m') hm.symm
                rw [List.getElem?_eq_getElem (by omega)] at h1
                exact hz.trans (Option.some.inj h1)
              have e3 : decide (pl ≤ z) = false := by rw [hzl]; simpa using hlt4
              have e4 : decide ((0 : Int) < (m' : Int) + 1) = true := decide_eq_true (by omega)
              have im0 : (0 : Int) ≤ (m' : Int) := by omega
              have im1 : (m' : Int) ≤ 2000 := by omega
              have i7 : (m' : Int) + 1 - 1 = (m' : Int) := by omega
              clear hz hzl hm hlt4 hli
              go_quiet (fail)
              go_wp2_with fail
              refine regR20 rfl _ (by exact Nat.le_of_ble_eq_true rfl) _ (g + 1) wr.heap.size _ _ t ht6 _ pl L1 (by have := R5.out.gt; exact (by omega : g + 1 < W5.heap.size)) (by exact cl1) (by exact fz1) (by exact ce3) (by exact (SlN.ints (w := W5) H1.out (by have := HM.out; omega)).belowO (drewN_belowW W5 _) (Nat.le_refl _)) (by exact HZ5.out) HM.out.symm (by omega) rfl rfl rfl ?_
              intro y0 y1 y2 y3 y4 y5 y6 y7 y8 A' c' w6 b6 own6
              simp only [regR20_ds, putAll, List.setIfInBounds_toArray, List.set_cons_succ, List.set_cons_zero]
              have hsz6 := R5.out.gt
              have R6 : Hid (RowSt W3 w6 g q i) := (R5.out.below (drewN_belowW W5 _)).below b6
              have S6 : Hid (SlN w6 (g + 2) A' (L1 ++ [pl])) := SlN.own own6 (by exact hsz6) (by have := HM.out; rw [List.length_append]; simp only [List.length_cons, List.length_nil]; omega) (by omega)
              have B6 : Hid (Below W5.heap.size W5 w6) := (drewN_belowW W5 _).trans b6
              clear own6 b6 cl1 fz1 hsz6
              go_wp2_with fail
              refine ⟨?_, ?measure⟩
              · exact ⟨i + 1, by omega, by go_num, by rw [HQ.out]; exact R6.out.lkPut ht6 (by have := HM.out; rw [List.length_append]; simp only [List.length_cons, List.length_nil]; omega) S6.out hcom.out (by rw [hl.out, HL1.out]) (by have := HI.out; rw [List.length_append]; simp only [List.length_cons, List.length_nil]; omega) (by omega) (fun u => ⟨fun hu => by rw [HO.out u (by omega)], hs.out u⟩)⟩
              case measure => simp [intOf]; omega
          · as_aux_lemma =>
            have hcom : Hid ((stepS sn q ⟨5, t, tx, pl, v, x, why⟩).com = q.com) := by show _ = _; rw [FC.out, if_neg (by omega)]
            clear f1 f4 f8 f9
            go_wp2_with fail
            refine ⟨?_, ?measure⟩
            · exact ⟨i + 1, by omega, by go_num, by rw [HQ.out]; exact (HR5.out _).next hcom.out (HOTH.out _ rfl (by decide) (by decide) (by decide))⟩
            case measure => simp [intOf]; omega
          · as_aux_lemma =>
            have hcom : Hid ((stepS sn q ⟨6, t, tx, pl, v, x, why⟩).com = q.com) := by show _ = _; rw [FC.out, if_neg (by omega)]
            clear f1 f4 f8 f9
            go_wp2_with fail
            refine ⟨?_, ?measure⟩
            · exact ⟨i + 1, by omega, by go_num, by rw [HQ.out]; exact (HR5.out _).next hcom.out (HOTH.out _ rfl (by decide) (by decide) (by decide))⟩
            case measure => simp [intOf]; omega
          · as_aux_lemma =>
            have ho7 := HOTH.out _ rfl (by decide) (by decide) (by decide)
            have HO7 := Lib.hid ho7
            clear f1 f4 f8 f9 ho7
            have hcb0 := hcb
            by_cases hv : v = 0
            · have e1 : (v == 0) = true := by simp [hv]
              have hcom : Hid ((stepS sn q ⟨7, t, tx, pl, v, x, why⟩).com = updF q.com t (q.com t + 1)) := by show _ = _; rw [FC.out, if_pos (.inl ⟨rfl, hv⟩)]
              have ccm := (HR5.out (.cells #[.int .u8 7, .int .i64 t, .int .i64 tx, .int .i64 pl, .int .i64 v, .int .i64 x, .int .u8 why] 27)).cmC ht6
              have fcm := frozen_of_row (wr.alloc (.cells #[.int .u8 7, .int .i64 t, .int .i64 tx, .int .i64 pl, .int .i64 v, .int .i64 x, .int .u8 why] 27)) g t _ _ (HR5.out _).cm
              have ccw := hrow.out.cmC ht6
              have fcw := frozen_of_row wr g t _ _ hrow.out.cm
              clear hv
              go_wp2_with fail
              refine ⟨?_, ?measure⟩
              · exact ⟨i + 1, by omega, by go_num, by rw [HQ.out]; exact (HR5.out _).com ht6 (q.com t + 1) hcom.out HO7.out⟩
              case measure => simp [intOf]; omega
            · have e1 : (v == 0) = false := by simp [hv]
              have hcom : Hid ((stepS sn q ⟨7, t, tx, pl, v, x, why⟩).com = q.com) := by show _ = _; rw [FC.out, if_neg (by omega)]
              clear hv
              go_wp2_with fail
              refine ⟨?_, ?measure⟩
              · exact ⟨i + 1, by omega, by go_num, by rw [HQ.out]; exact (HR5.out _).next hcom.out HO7.out⟩
              case measure => simp [intOf]; omega
  
          · as_aux_lemma =>
            obtain ⟨hlt4, hpl0, hmem⟩ := f8 rfl
            obtain ⟨pk0, rfl⟩ : ∃ pk0 : Nat, pl = pk0 := ⟨pl.toNat, by omega⟩
            have hcom : Hid ((stepS sn q ⟨8, t, tx, pk0, v, x, why⟩).com = q.com) := by show _ = _; rw [FC.out, if_neg (by omega)]
            have hs : Hid (((stepS sn q ⟨8, t, tx, pk0, v, x, why⟩).att t).st = (q.att t).st ++ [(pk0 : Int)]) := by show _ = _; simpa using FS.out
            have hl : Hid (∀ u : Nat, ((stepS sn q ⟨8, t, tx, pk0, v, x, why⟩).att u).lk = (q.att u).lk) := fun u => by
              by_cases hu : (t : Int) = u
              · rw [← hu]; simpa using FL.out
              · rw [HO.out u hu]
            obtain ⟨pk, hpk⟩ : ∃ pk, pk = pk0 % sn := ⟨_, rfl⟩
            have hmod : (pk0 : Int) % (sn : Int) = (pk : Int) := by omega
            rw [hmod] at hmem
            have e1 : (pk0 : Int).tmod (sn : Int) = (pk : Int) := by rw [tmod_pos (by omega), hpk]
            have hpk32 : pk < 32 := by rw [hpk]; exact Nat.lt_of_lt_of_le (Nat.mod_lt _ (by omega)) hs32
            have e2 : IntKind.i64.wrap (pk : Int) = (pk : Int) := IntWalk.i64_in _ ⟨by omega, by omega⟩
            have hmi : (sn : Int) ≠ 0 := by omega
            clear f1 f4 f8 f9 hpk hmod
            go_wp2_with fail
            obtain ⟨W5, hW5⟩ : ∃ W5, W5 = wr.alloc (.cells #[.int .u8 8, .int .i64 t, .int .i64 tx, .int .i64 pk0, .int .i64 v, .int .i64 x, .int .u8 why] 27) := ⟨_, rfl⟩
            have ge5 : W5.heap[wr.heap.size]? = some (.cells #[.int .u8 8, .int .i64 t, .int .i64 tx, .int .i64 pk0, .int .i64 v, .int .i64 x, .int .u8 why] 27) := by rw [hW5]; exact heap_alloc_new wr _
            have r5 := HR5.out (.cells #[.int .u8 8, .int .i64 t, .int .i64 tx, .int .i64 pk0, .int .i64 v, .int .i64 x, .int .u8 why] 27)
            have xt5 := HX.out (.cells #[.int .u8 8, .int .i64 t, .int .i64 tx, .int .i64 pk0, .int .i64 v, .int .i64 x, .int .u8 why] 27)
            rw [← hW5] at r5 xt5 ⊢
            have xs5 := cell_of_row W5 _ 2 _ _ _ xt5
            have ce3 := cell_of_row W5 _ 3 _ _ _ ge5
            simp only [List.getElem?_toArray, List.getElem?_cons_zero, List.getElem?_cons_succ] at xs5 ce3
            have GE5 := Lib.hid ge5
            have R5 := Lib.hid r5
            have hz5 : wr.heap.size < W5.heap.size := (Array.getElem?_eq_some_iff.1 ge5).1
            have HZ5 := Lib.hid hz5
            have XT5 := Lib.hid xt5
            clear hW5 ge5 r5 xt5 hz5
            obtain ⟨A1, k1, cl1, fz1, hs1⟩ := R5.out.st.get ht6
            have hli := (R5.out.li t).2
            obtain ⟨L1, hL1⟩ : ∃ L1, L1 = (q.att t).st := ⟨_, rfl⟩
            rw [← hL1] at cl1 hs1 hlt4 hli
            have HL1 := Lib.hid hL1
            have H1 := Lib.hid hs1
            have HI := Lib.hid hli
            obtain ⟨m, hm⟩ : ∃ m, m = L1.length := ⟨_, rfl⟩
            have HM := Lib.hid hm
            rw [← hm] at cl1 hli
            have hm5 : m ≤ 2000 := by omega
            clear hL1 hs1
            by_cases h0 : m = 0
            · subst h0
              clear hm hlt4 hli
              go_quiet (fail)
              go_wp2_with fail
              refine regR24 rfl _ (by exact Nat.le_of_ble_eq_true rfl) _ (g + 2) wr.heap.size _ _ t ht6 _ pk0 L1 (by have := R5.out.gt; exact (by omega : g + 2 < W5.heap.size)) (by exact cl1) (by exact fz1) (by exact ce3) (by exact (SlN.ints (w := W5) H1.out (by have := HM.out; omega)).belowO (drewN_belowW W5 _) (Nat.le_refl _)) (by exact HZ5.out) HM.out.symm (by omega) rfl rfl rfl ?_
              intro y0 y1 y2 y3 y4 y5 y6 y7 y8 A' c' w6 b6 own6
              simp only [regR24_ds, putAll, List.setIfInBounds_toArray, List.set_cons_succ, List.set_cons_zero]
              have hsz6 := R5.out.gt
              have R6 : Hid (RowSt W3 w6 g q i) := (R5.out.below (drewN_belowW W5 _)).below b6
              have S6 : Hid (SlN w6 (g + 2) A' (L1 ++ [(pk0 : Int)])) := SlN.own own6 (by exact hsz6) (by have := HM.out; rw [List.length_append]; simp only [List.length_cons, List.length_nil]; omega) (by omega)
              have B6 : Hid (Below W5.heap.size W5 w6) := (drewN_belowW W5 _).trans b6
              clear own6 b6 cl1 fz1 hsz6
              go_wp2_with fail
              have R7 : Hid (RowSt W3 (w6.setCell ⟨g + 2, t, none⟩ (.slice A' (0 + 1) c')) g (stepS sn q ⟨8, t, tx, pk0, v, x, why⟩) (i + 1)) := R6.out.stPut ht6 (by have := HM.out; rw [List.length_append]; simp only [List.length_cons, List.length_nil]; omega) S6.out hcom.out (by rw [hs.out, HL1.out]) (by have := HI.out; rw [List.length_append]; simp only [List.length_cons, List.length_nil]; omega) (by omega) (fun u => ⟨fun hu => by rw [HO.out u (by omega)], hl.out u⟩)
              have hgt := hrow.out.gt
              have g7 : (w6.setCell ⟨g + 2, t, none⟩ (.slice A' (0 + 1) c')).heap[wr.heap.size]? = some (.cells #[.int .u8 8, .int .i64 t, .int .i64 tx, .int .i64 pk0, .int .i64 v, .int .i64 x, .int .u8 why] 27 (0, 0)) := (hset_other _ _ _ _ _ (by omega)).trans ((B6.out.block _ HZ5.out).trans GE5.out)
              have t7 : (w6.setCell ⟨g + 2, t, none⟩ (.slice A' (0 + 1) c')).heap[w.heap.size]? = some (.cells #[.int .i64 T, .int .i64 V, .int .i64 sn, .slice (some a) n c] 35 (0, 0)) := (hset_other _ _ _ _ _ (by omega)).trans ((B6.out.block _ (by have := HZ5.out; omega)).trans XT5.out)
              generalize w6.setCell ⟨g + 2, t, none⟩ (.slice A' (0 + 1) c') = W7 at R7 g7 t7 ⊢
              have G7 := Lib.hid g7
              have T7 := Lib.hid t7
              have hz7 : wr.heap.size < W7.heap.size := (Array.getElem?_eq_some_iff.1 g7).1
              clear g7 t7 S6 B6 R6 ce3 xs5
              obtain ⟨A2, k2, cl2, fz2, hs2⟩ := R7.out.lk.get ht6
              rw [hl.out t] at cl2 hs2
              obtain ⟨L2, hL2⟩ : ∃ L2, L2 = (q.att t).lk := ⟨_, rfl⟩
              rw [← hL2] at cl2 hs2 hmem
              have hli2 := (hrow.out.li t).1
              rw [← hL2] at hli2
              obtain ⟨m2, hm2⟩ : ∃ m, m = L2.length := ⟨_, rfl⟩
              rw [← hm2] at cl2 hli2
              have HM2 := Lib.hid hm2
              have HS2 := Lib.hid hs2
              have CL2 := Lib.hid cl2
              have HME : Hid (hasB L2 m2 (pk : Int) = true) := by show _ = _; rw [hm2]; exact hasB_all hmem
              have im2 : (m2 : Int) ≤ 2000 := by omega
              clear hL2 hs2 hm2 cl2 fz2 hmem hli2
              go_loopw [9, 10] (fun inv kv wx => ∃ (k : Nat) (b : Bool), k ≤ m2 ∧ kv = .int .i64 k ∧ inv = .bool b ∧ Hid (b = hasB L2 k (pk : Int)) ∧ Hid (Below W7.heap.size W7 wx)) (fun _ kv _ => m2 - (intOf kv).toNat)
              case atStart => exact ⟨0, false, by omega, rfl, rfl, rfl, Below.refl _ _⟩
              case round =>
                obtain ⟨k, b, hk, rfl, rfl, hbb, hBx⟩ := hrel
                have gx := (hBx.out.block _ hz7).trans G7.out
                have tx7 := (hBx.out.block _ (by omega)).trans T7.out
                have d3 := cell_of_row _ _ 3 _ _ _ gx
                have d2 := cell_of_row _ _ 2 _ _ _ tx7
                have dl := (hBx.out.cell (p := ⟨g + 1, t, none⟩) (by show g + 1 < _; omega)).trans CL2.out
                simp only [List.getElem?_toArray, List.getElem?_cons_zero, List.getElem?_cons_succ] at d3 d2
                clear gx tx7
                by_cases hkm : k < m2
                · obtain ⟨a2, rfl, _, hz2, cz⟩ := HS2.out k (by rw [← HM2.out]; exact hkm)
                  have cz := (hBx.out.cell (p := a2.add k) (by rw [ad_blockO]; exact hz2)).trans cz
                  have HNX := Lib.hid (hasB_next (L := L2) (k := k) (by rw [← HM2.out]; exact hkm) (pk : Int))
                  obtain ⟨y, hy⟩ : ∃ y, y = L2[k]'(by rw [← HM2.out]; exact hkm) := ⟨_, rfl⟩
                  rw [← hy] at cz
                  have HY := Lib.hid hy
                  clear hy hz2
                  have ik0 : (0 : Int) ≤ (k : Int) := by omega
                  have ik1 : (k : Int) < (m2 : Int) := by omega
                  cases b with
                  | true =>
                    clear cz
                    go_wp2_with fail
                    go_quiet (fail)
                    go_wp2_with fail
                    go_roundw
                    case rel => exact ⟨k + 1, true, by omega, by go_num, (by first | rfl | trivial), (by show _ = _; rw [HNX.out, ← hbb.out]; rfl), hBx.out.trans (drewN_belowW _ _ |>.mono hBx.out.size)⟩
                    case measure => simp [intOf]; omega
                  | false =>
                    obtain ⟨r, hr⟩ : ∃ r, r = (y == (pk : Int)) := ⟨_, rfl⟩
                    have e5 := hr.symm
                    have HR := Lib.hid hr
                    clear hr
                    go_wp2_with fail
                    go_quiet (fail)
                    go_wp2_with fail
                    go_roundw
                    case rel => exact ⟨k + 1, r, by omega, by go_num, (by first | rfl | trivial), (by show _ = _; rw [HNX.out, ← hbb.out, HR.out, HY.out]; rfl), hBx.out.trans (drewN_belowW _ _ |>.mono hBx.out.size)⟩
                    case measure => simp [intOf]; omega
                · obtain rfl : k = m2 := by omega
                  obtain rfl : b = true := hbb.out.trans HME.out
                  have ikk : ¬ (k : Int) < (k : Int) := by omega
                  clear d3 d2
                  go_wp2_with fail
                  refine ⟨?_, ?measure⟩
                  · exact ⟨i + 1, by omega, by go_num, by rw [HQ.out]; exact R7.out.below hBx.out⟩
                  case measure => simp [intOf]; omega
            · obtain ⟨m', rfl⟩ : ∃ m', m = m' + 1 := ⟨m - 1, by omega⟩
              obtain ⟨a1, rfl, _, _, cz⟩ := H1.out m' (by omega)
              obtain ⟨z, hz⟩ : ∃ z, z = L1[m']'(by omega) := ⟨_, rfl⟩
              rw [← hz] at cz
              have hzl : z = lastL L1 := by
                have h1 := lastL_snoc (L := L1) (m := m') hm.symm
                rw [List.getElem?_eq_getElem (by omega)] at h1
                exact hz.trans (Option.some.inj h1)
              have e3 : decide ((pk0 : Int) ≤ z) = false := by rw [hzl]; simpa using hlt4
              have e4 : decide ((0 : Int) < (m' : Int) + 1) = true := decide_eq_true (by omega)
              have im0 : (0 : Int) ≤ (m' : Int) := by omega
              have im1 : (m' : Int) ≤ 2000 := by omega
              have i7 : (m' : Int) + 1 - 1 = (m' : Int) := by omega
              clear hz hzl hm hlt4 hli
              go_quiet (fail)
              go_wp2_with fail
              refine regR24 rfl _ (by exact Nat.le_of_ble_eq_true rfl) _ (g + 2) wr.heap.size _ _ t ht6 _ pk0 L1 (by have := R5.out.gt; exact (by omega : g + 2 < W5.heap.size)) (by exact cl1) (by exact fz1) (by exact ce3) (by exact (SlN.ints (w := W5) H1.out (by have := HM.out; omega)).belowO (drewN_belowW W5 _) (Nat.le_refl _)) (by exact HZ5.out) HM.out.symm (by omega) rfl rfl rfl ?_
              intro y0 y1 y2 y3 y4 y5 y6 y7 y8 A' c' w6 b6 own6
              simp only [regR24_ds, putAll, List.setIfInBounds_toArray, List.set_cons_succ, List.set_cons_zero]
              have hsz6 := R5.out.gt
              have R6 : Hid (RowSt W3 w6 g q i) := (R5.out.below (drewN_belowW W5 _)).below b6
              have S6 : Hid (SlN w6 (g + 2) A' (L1 ++ [(pk0 : Int)])) := SlN.own own6 (by exact hsz6) (by have := HM.out; rw [List.length_append]; simp only [List.length_cons, List.length_nil]; omega) (by omega)
              have B6 : Hid (Below W5.heap.size W5 w6) := (drewN_belowW W5 _).trans b6
              clear own6 b6 cl1 fz1 hsz6
              go_wp2_with fail
              have R7 : Hid (RowSt W3 (w6.setCell ⟨g + 2, t, none⟩ (.slice A' ((m' + 1) + 1) c')) g (stepS sn q ⟨8, t, tx, pk0, v, x, why⟩) (i + 1)) := R6.out.stPut ht6 (by have := HM.out; rw [List.length_append]; simp only [List.length_cons, List.length_nil]; omega) S6.out hcom.out (by rw [hs.out, HL1.out]) (by have := HI.out; rw [List.length_append]; simp only [List.length_cons, List.length_nil]; omega) (by omega) (fun u => ⟨fun hu => by rw [HO.out u (by omega)], hl.out u⟩)
              have hgt := hrow.out.gt
              have g7 : (w6.setCell ⟨g + 2, t, none⟩ (.slice A' ((m' + 1) + 1) c')).heap[wr.heap.size]? = some (.cells #[.int .u8 8, .int .i64 t, .int .i64 tx, .int .i64 pk0, .int .i64 v, .int .i64 x, .int .u8 why] 27 (0, 0)) := (hset_other _ _ _ _ _ (by omega)).trans ((B6.out.block _ HZ5.out).trans GE5.out)
              have t7 : (w6.setCell ⟨g + 2, t, none⟩ (.slice A' ((m' + 1) + 1) c')).heap[w.heap.size]? = some (.cells #[.int .i64 T, .int .i64 V, .int .i64 sn, .slice (some a) n c] 35 (0, 0)) := (hset_other _ _ _ _ _ (by omega)).trans ((B6.out.block _ (by have := HZ5.out; omega)).trans XT5.out)
              generalize w6.setCell ⟨g + 2, t, none⟩ (.slice A' ((m' + 1) + 1) c') = W7 at R7 g7 t7 ⊢
              have G7 := Lib.hid g7
              have T7 := Lib.hid t7
              have hz7 : wr.heap.size < W7.heap.size := (Array.getElem?_eq_some_iff.1 g7).1
              clear g7 t7 S6 B6 R6 ce3 xs5
              obtain ⟨A2, k2, cl2, fz2, hs2⟩ := R7.out.lk.get ht6
              rw [hl.out t] at cl2 hs2
              obtain ⟨L2, hL2⟩ : ∃ L2, L2 = (q.att t).lk := ⟨_, rfl⟩
              rw [← hL2] at cl2 hs2 hmem
              have hli2 := (hrow.out.li t).1
              rw [← hL2] at hli2
              obtain ⟨m2, hm2⟩ : ∃ m, m = L2.length := ⟨_, rfl⟩
              rw [← hm2] at cl2 hli2
              have HM2 := Lib.hid hm2
              have HS2 := Lib.hid hs2
              have CL2 := Lib.hid cl2
              have HME : Hid (hasB L2 m2 (pk : Int) = true) := by show _ = _; rw [hm2]; exact hasB_all hmem
              have im2 : (m2 : Int) ≤ 2000 := by omega
              clear hL2 hs2 hm2 cl2 fz2 hmem hli2
              go_loopw [9, 10] (fun inv kv wx => ∃ (k : Nat) (b : Bool), k ≤ m2 ∧ kv = .int .i64 k ∧ inv = .bool b ∧ Hid (b = hasB L2 k (pk : Int)) ∧ Hid (Below W7.heap.size W7 wx)) (fun _ kv _ => m2 - (intOf kv).toNat)
              case atStart => exact ⟨0, false, by omega, rfl, rfl, rfl, Below.refl _ _⟩
              case round =>
                obtain ⟨k, b, hk, rfl, rfl, hbb, hBx⟩ := hrel
                have gx := (hBx.out.block _ hz7).trans G7.out
                have tx7 := (hBx.out.block _ (by omega)).trans T7.out
                have d3 := cell_of_row _ _ 3 _ _ _ gx
                have d2 := cell_of_row _ _ 2 _ _ _ tx7
                have dl := (hBx.out.cell (p := ⟨g + 1, t, none⟩) (by show g + 1 < _; omega)).trans CL2.out
                simp only [List.getElem?_toArray, List.getElem?_cons_zero, List.getElem?_cons_succ] at d3 d2
                clear gx tx7
                by_cases hkm : k < m2
                · obtain ⟨a2, rfl, _, hz2, cz⟩ := HS2.out k (by rw [← HM2.out]; exact hkm)
                  have cz := (hBx.out.cell (p := a2.add k) (by rw [ad_blockO]; exact hz2)).trans cz
                  have HNX := Lib.hid (hasB_next (L := L2) (k := k) (by rw [← HM2.out]; exact hkm) (pk : Int))
                  obtain ⟨y, hy⟩ : ∃ y, y = L2[k]'(by rw [← HM2.out]; exact hkm) := ⟨_, rfl⟩
                  rw [← hy] at cz
                  have HY := Lib.hid hy
                  clear hy hz2
                  have ik0 : (0 : Int) ≤ (k : Int) := by omega
                  have ik1 : (k : Int) < (m2 : Int) := by omega
                  cases b with
                  | true =>
                    clear cz
                    go_wp2_with fail
                    go_quiet (fail)
                    go_wp2_with fail
                    go_roundw
                    case rel => exact ⟨k + 1, true, by omega, by go_num, (by first | rfl | trivial), (by show _ = _; rw [HNX.out, ← hbb.out]; rfl), hBx.out.trans (drewN_belowW _ _ |>.mono hBx.out.size)⟩
                    case measure => simp [intOf]; omega
                  | false =>
                    obtain ⟨r, hr⟩ : ∃ r, r = (y == (pk : Int)) := ⟨_, rfl⟩
                    have e5 := hr.symm
                    have HR := Lib.hid hr
                    clear hr
                    go_wp2_with fail
                    go_quiet (fail)
                    go_wp2_with fail
                    go_roundw
                    case rel => exact ⟨k + 1, r, by omega, by go_num, (by first | rfl | trivial), (by show _ = _; rw [HNX.out, ← hbb.out, HR.out, HY.out]; rfl), hBx.out.trans (drewN_belowW _ _ |>.mono hBx.out.size)⟩
                    case measure => simp [intOf]; omega
                · obtain rfl : k = m2 := by omega
                  obtain rfl : b = true := hbb.out.trans HME.out
                  have ikk : ¬ (k : Int) < (k : Int) := by omega
                  clear d3 d2
                  go_wp2_with fail
                  refine ⟨?_, ?measure⟩
                  · exact ⟨i + 1, by omega, by go_num, by rw [HQ.out]; exact R7.out.below hBx.out⟩
                  case measure => simp [intOf]; omega
          · as_aux_lemma =>
            obtain ⟨hne, hcov, hpos⟩ := f9 rfl
            have HO9 := Lib.hid (HOTH.out _ rfl (by decide) (by decide) (by decide))
            clear f1 f4 f8 f9
            go_wp2_with fail
            obtain ⟨W5, hW5⟩ : ∃ W5, W5 = wr.alloc (.cells #[.int .u8 9, .int .i64 t, .int .i64 tx, .int .i64 pl, .int .i64 v, .int .i64 x, .int .u8 why] 27) := ⟨_, rfl⟩
            have ge5 : W5.heap[wr.heap.size]? = some (.cells #[.int .u8 9, .int .i64 t, .int .i64 tx, .int .i64 pl, .int .i64 v, .int .i64 x, .int .u8 why] 27) := by rw [hW5]; exact heap_alloc_new wr _
            have r5 := HR5.out (.cells #[.int .u8 9, .int .i64 t, .int .i64 tx, .int .i64 pl, .int .i64 v, .int .i64 x, .int .u8 why] 27)
            have xt5 := HX.out (.cells #[.int .u8 9, .int .i64 t, .int .i64 tx, .int .i64 pl, .int .i64 v, .int .i64 x, .int .u8 why] 27)
            rw [← hW5] at r5 xt5 ⊢
            have xs5 := cell_of_row W5 _ 2 _ _ _ xt5
            have ce3 := cell_of_row W5 _ 3 _ _ _ ge5
            simp only [List.getElem?_toArray, List.getElem?_cons_zero, List.getElem?_cons_succ] at xs5 ce3
            have GE5 := Lib.hid ge5
            have R5 := Lib.hid r5
            have hz5 : wr.heap.size < W5.heap.size := (Array.getElem?_eq_some_iff.1 ge5).1
            have HZ5 := Lib.hid hz5
            have XT5 := Lib.hid xt5
            clear hW5 ge5 r5 xt5 hz5
            have hgt := hrow.out.gt
            have hz5 := HZ5.out
            obtain ⟨A1, k1, cl1, fz1, hs1⟩ := R5.out.lk.get ht6
            obtain ⟨A2, k2, cl2, fz2, hs2⟩ := R5.out.st.get ht6
            have hli1 := (hrow.out.li t).1
            have hli2 := (hrow.out.li t).2
            obtain ⟨L1, hL1⟩ : ∃ L1, L1 = (q.att t).lk := ⟨_, rfl⟩
            obtain ⟨L2, hL2⟩ : ∃ L2, L2 = (q.att t).st := ⟨_, rfl⟩
            rw [← hL1] at cl1 hs1 hne hcov hli1
            rw [← hL2] at cl2 hs2 hcov hpos hli2
            have HL1 := Lib.hid hL1
            obtain ⟨m1, hm1⟩ : ∃ m, m = L1.length := ⟨_, rfl⟩
            obtain ⟨m2, hm2⟩ : ∃ m, m = L2.length := ⟨_, rfl⟩
            rw [← hm1] at cl1 hli1
            rw [← hm2] at cl2 hli2
            have HM1 := Lib.hid hm1
            have HM2 := Lib.hid hm2
            have HS1 := Lib.hid hs1
            have HS2 := Lib.hid hs2
            have CL1 := Lib.hid cl1
            have CL2 := Lib.hid cl2
            have hm1p : 0 < m1 := by rw [hm1]; exact List.length_pos_iff.2 hne
            have im1 : (m1 : Int) ≤ 2000 := by omega
            have im2 : (m2 : Int) ≤ 2000 := by omega
            have HCV : Hid (∀ z ∈ L1, hasM sn L2 m2 z = true) := fun z hz => by rw [hm2]; exact hasM_all (hcov z hz)
            have HPO : Hid (∀ x ∈ L2, 0 ≤ x) := hpos
            have hmi : (sn : Int) ≠ 0 := by omega
            clear hL1 hL2 hs1 hs2 hm1 hm2 cl1 cl2 fz1 fz2 hne hcov hpos hli1 hli2 ce3 xs5
            go_loopw [11] (fun kv wx => ∃ k : Nat, k ≤ m1 ∧ kv = .int .i64 k ∧ Hid (Below W5.heap.size W5 wx)) (fun kv _ => m1 - (intOf kv).toNat)
            case atStart => exact ⟨0, by omega, rfl, Below.refl _ _⟩
            case round =>
              obtain ⟨k, hk, rfl, hBx⟩ := hrel
              have gx := (hBx.out.block _ hz5).trans GE5.out
              have d3 := cell_of_row _ _ 3 _ _ _ gx
              have dl1 := (hBx.out.cell (p := ⟨g + 1, t, none⟩) (by show g + 1 < _; omega)).trans CL1.out
              simp only [List.getElem?_toArray, List.getElem?_cons_zero, List.getElem?_cons_succ] at d3
              clear gx
              by_cases hkm : k < m1
              · obtain ⟨a1, rfl, _, hz1, cz1⟩ := HS1.out k (by rw [← HM1.out]; exact hkm)
                obtain ⟨z, hz⟩ : ∃ z, z = L1[k]'(by rw [← HM1.out]; exact hkm) := ⟨_, rfl⟩
                rw [← hz] at cz1
                have CZ1 := Lib.hid cz1
                have HZ1 := Lib.hid hz1
                have HCK : Hid (hasM sn L2 m2 z = true) := HCV.out z (by rw [hz]; exact List.getElem_mem _)
                have ik0 : (0 : Int) ≤ (k : Int) := by omega
                have ik1 : (k : Int) < (m1 : Int) := by omega
                clear hz hz1 cz1
                go_wp2_with fail
                go_loopw [12, 13] (fun inv jv wy => ∃ (j : Nat) (b : Bool), j ≤ m2 ∧ jv = .int .i64 j ∧ inv = .bool b ∧ Hid (b = hasM sn L2 j z) ∧ Hid (Below W5.heap.size W5 wy)) (fun _ jv _ => m2 - (intOf jv).toNat)
                case atStart => exact ⟨0, false, by omega, rfl, rfl, rfl, hBx⟩
                case round =>
                  obtain ⟨j, b, hj, rfl, rfl, hbb, hBy⟩ := hrel
                  have ty5 := (hBy.out.block _ (by omega)).trans XT5.out
                  have d2 := cell_of_row _ _ 2 _ _ _ ty5
                  have ey1 := (hBy.out.cell (p := ⟨g + 1, t, none⟩) (by show g + 1 < _; omega)).trans CL1.out
                  have ey2 := (hBy.out.cell (p := ⟨g + 2, t, none⟩) (by show g + 2 < _; omega)).trans CL2.out
                  have ez1 := (hBy.out.cell (p := a1.add k) (by rw [ad_blockO]; exact HZ1.out)).trans CZ1.out
                  simp only [List.getElem?_toArray, List.getElem?_cons_zero, List.getElem?_cons_succ] at d2
                  clear ty5
                  by_cases hjm : j < m2
                  · obtain ⟨a2, rfl, _, hz2, cz2⟩ := HS2.out j (by rw [← HM2.out]; exact hjm)
                    have ez2 := (hBy.out.cell (p := a2.add j) (by rw [ad_blockO]; exact hz2)).trans cz2
                    have HNX := Lib.hid (hasM_next (S := sn) (L := L2) (k := j) (by rw [← HM2.out]; exact hjm) z)
                    have hp0 := HPO.out (L2[j]'(by rw [← HM2.out]; exact hjm)) (List.getElem_mem _)
                    obtain ⟨y, hy⟩ : ∃ y : Nat, (y : Int) = L2[j]'(by rw [← HM2.out]; exact hjm) := ⟨(L2[j]'(by rw [← HM2.out]; exact hjm)).toNat, by omega⟩
                    rw [← hy] at ez2 HNX
                    obtain ⟨pk, hpk⟩ : ∃ pk, pk = y % sn := ⟨_, rfl⟩
                    have hmod : (y : Int) % (sn : Int) = (pk : Int) := by omega
                    rw [hmod] at HNX
                    have e1 : (y : Int).tmod (sn : Int) = (pk : Int) := by rw [tmod_pos (by omega), hpk]
                    have hpk32 : pk < 32 := by rw [hpk]; exact Nat.lt_of_lt_of_le (Nat.mod_lt _ (by omega)) hs32
                    have e2 : IntKind.i64.wrap (pk : Int) = (pk : Int) := IntWalk.i64_in _ ⟨by omega, by omega⟩
                    have ij0 : (0 : Int) ≤ (j : Int) := by omega
                    have ij1 : (j : Int) < (m2 : Int) := by omega
                    clear cz2 hz2 hp0 hy hpk hmod
                    cases b with
                    | true =>
                      clear ez1 ez2
                      go_wp2_with fail
                      go_quiet (fail)
                      go_wp2_with fail
                      go_roundw
                      case rel => exact ⟨j + 1, true, by omega, by go_num, (by first | rfl | trivial), (by show _ = _; rw [HNX.out, ← hbb.out]; rfl), hBy.out.trans (drewN_belowW _ _ |>.mono hBy.out.size)⟩
                      case measure => simp [intOf]; omega
                    | false =>
                      obtain ⟨r, hr⟩ : ∃ r, r = ((pk : Int) == z) := ⟨_, rfl⟩
                      have e5 := hr.symm
                      have HR := Lib.hid hr
                      clear hr
                      go_wp2_with fail
                      go_quiet (fail)
                      go_wp2_with fail
                      go_roundw
                      case rel => exact ⟨j + 1, r, by omega, by go_num, (by first | rfl | trivial), (by show _ = _; rw [HNX.out, ← hbb.out, HR.out]; rfl), hBy.out.trans (drewN_belowW _ _ |>.mono hBy.out.size)⟩
                      case measure => simp [intOf]; omega
                  · obtain rfl : j = m2 := by omega
                    obtain rfl : b = true := hbb.out.trans HCK.out
                    have ijj : ¬ (j : Int) < (j : Int) := by omega
                    clear d2 ez1
                    go_wp2_with fail
                    go_roundw
                    case rel => exact ⟨k + 1, by omega, by go_num, hBy⟩
                    case measure => simp [intOf]; omega
              · obtain rfl : k = m1 := by omega
                have ikk : ¬ (k : Int) < (k : Int) := by omega
                obtain ⟨m', rfl⟩ : ∃ m', k = m' + 1 := ⟨k - 1, by omega⟩
                obtain ⟨a1, rfl, _, hz1, cz1⟩ := HS1.out m' (by rw [← HM1.out]; omega)
                have ez1 := (hBx.out.cell (p := a1.add m') (by rw [ad_blockO]; exact hz1)).trans cz1
                obtain ⟨z, hz⟩ : ∃ z, z = L1[m']'(by rw [← HM1.out]; omega) := ⟨_, rfl⟩
                rw [← hz] at ez1
                have hzl : z = lastL (q.att t).lk := by
                  have h1 := lastL_snoc (L := L1) (m := m') HM1.out.symm
                  rw [List.getElem?_eq_getElem (by rw [← HM1.out]; omega)] at h1
                  rw [← HL1.out]
                  exact hz.trans (Option.some.inj h1)
                have im0 : (0 : Int) ≤ (m' : Int) := by omega
                have i7 : (m' : Int) + 1 - 1 = (m' : Int) := by omega
                have RX : Hid (RowSt W3 _ g q i) := R5.out.below hBx.out
                have ccm := RX.out.cmC ht6
                have fcm := frozen_of_row _ g t _ _ RX.out.cm
                clear hz cz1 hz1
                by_cases hzp : z = pl
                · have e9 : (z == pl) = true := by simp [hzp]
                  have hcom : Hid ((stepS sn q ⟨9, t, tx, pl, v, x, why⟩).com = updF q.com t (q.com t + 1)) := by show _ = _; rw [FC.out, if_pos (.inr ⟨(by first | rfl | trivial), by rw [← hzl]; exact hzp⟩)]
                  clear hzp hzl
                  go_wp2_with fail
                  go_quiet (fail)
                  go_wp2_with fail
                  refine ⟨?_, ?measure⟩
                  · exact ⟨i + 1, by omega, by go_num, by rw [HQ.out]; exact (RX.out.below (drewN_belowW _ _)).com ht6 (q.com t + 1) hcom.out HO9.out⟩
                  case measure => simp [intOf]; omega
                · have e9 : (z == pl) = false := by simp [hzp]
                  have hcom : Hid ((stepS sn q ⟨9, t, tx, pl, v, x, why⟩).com = q.com) := by show _ = _; rw [FC.out, if_neg (fun h => h.elim (fun h => absurd h.1 (by decide)) (fun h => hzp (by rw [hzl]; exact h.2)))]
                  clear hzp hzl
                  go_wp2_with fail
                  go_quiet (fail)
                  go_wp2_with fail
                  refine ⟨?_, ?measure⟩
                  · exact ⟨i + 1, by omega, by go_num, by rw [HQ.out]; exact (RX.out.below (drewN_belowW _ _)).next hcom.out HO9.out⟩
                  case measure => simp [intOf]; omega
          · as_aux_lemma =>
            have hcom : Hid ((stepS sn q ⟨10, t, tx, pl, v, x, why⟩).com = q.com) := by show _ = _; rw [FC.out, if_neg (by omega)]
            clear f1 f4 f8 f9
            go_wp2_with fail
            refine ⟨?_, ?measure⟩
            · exact ⟨i + 1, by omega, by go_num, by rw [HQ.out]; exact (HR5.out _).next hcom.out (HOTH.out _ rfl (by decide) (by decide) (by decide))⟩
            case measure => simp [intOf]; omega
          · as_aux_lemma =>
            have hcom : Hid ((stepS sn q ⟨11, t, tx, pl, v, x, why⟩).com = q.com) := by show _ = _; rw [FC.out, if_neg (by omega)]
            clear f1 f4 f8 f9
            go_wp2_with fail
            refine ⟨?_, ?measure⟩
            · exact ⟨i + 1, by omega, by go_num, by rw [HQ.out]; exact (HR5.out _).next hcom.out (HOTH.out _ rfl (by decide) (by decide) (by decide))⟩
            case measure => simp [intOf]; omega
          · as_aux_lemma =>
            have hcom : Hid ((stepS sn q ⟨12, t, tx, pl, v, x, why⟩).com = q.com) := by show _ = _; rw [FC.out, if_neg (by omega)]
            clear f1 f4 f8 f9
            go_wp2_with fail
            refine ⟨?_, ?measure⟩
            · exact ⟨i + 1, by omega, by go_num, by rw [HQ.out]; exact (HR5.out _).next hcom.out (HOTH.out _ rfl (by decide) (by decide) (by decide))⟩
            case measure => simp [intOf]; omega
          · as_aux_lemma =>
            have hcom : Hid ((stepS sn q ⟨13, t, tx, pl, v, x, why⟩).com = q.com) := by show _ = _; rw [FC.out, if_neg (by omega)]
            clear f1 f4 f8 f9
            go_wp2_with fail
            refine ⟨?_, ?measure⟩
            · exact ⟨i + 1, by omega, by go_num, by rw [HQ.out]; exact (HR5.out _).next hcom.out (HOTH.out _ rfl (by decide) (by decide) (by decide))⟩
            case measure => simp [intOf]; omega
        · obtain rfl : i = n := by omega
          go_wp2_with fail
          go_ret
          exact ⟨rfl, BW.out⟩
end Go.Proofs.YtnkkakcnlcmikaaDoor
