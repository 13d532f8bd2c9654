/-
  THE DRAWN REGION OF A ROUND OF CodeNames' FIRST LOOP (layer 5): what may not be alone, and may not be behind a Read, comes to false, in whatever order. Conditions: as they stand.
-/
import Derived.Test.YtfnbffkiddofnaaDoorCb
namespace Go.Proofs.YtfnbffkiddofnaaDoor
open Go.RowKit Go.Deep
set_option linter.unusedVariables false
section
variable {a : Act} {w : World} {K : Act → World → Prop} {Q : Exit → Act → World → Prop} {o : Oper}
theorem so_load (x g : Nat) {r : Raw} (ho : o.op = Op.load 28 (.tmp x)) (hx : a.eval (.tmp x) = .pointer (some ⟨g, 0, none⟩)) (ht : Ten w ⟨g, 0, none⟩ r) (hK : K (a.put o.dst r.v) w) : Oper.wp Tryd.prog o a w K Q := by
  obtain ⟨dst, op, type, pos, after, guard⟩ := o
  have ho' : op = _ := ho
  subst ho'
  have gx : a.tmps[x]?.getD undef = .pointer (some ⟨g, 0, none⟩) := by
    have := hx
    simpa [Act.eval, Array.getD_eq_getD_getElem?] using this
  have c0 := ht.c0
  have c1 := ht.c1
  have c2 := ht.c2
  have c3 := ht.c3
  have c4 := ht.c4
  have c5 := ht.c5
  have c6 := ht.c6
  have c7 := ht.c7
  have c8 := ht.c8
  have c9 := ht.c9
  dsimp only at c0 c1 c2 c3 c4 c5 c6 c7 c8 c9
  rw [Nat.zero_add] at c1 c2 c3 c4 c5 c6 c7 c8 c9
  clear ho hx ht
  have hi := Tryd.isAgg28
  have hs := Tryd.sizeOf28
  go_simp
  exact hK
theorem so_moveB (x : Nat) {b : Bool} (ho : o.op = Op.move (.tmp x)) (hx : a.eval (.tmp x) = .bool b) (hK : K (a.put o.dst (.bool b)) w) : Oper.wp Tryd.prog o a w K Q := by
  obtain ⟨dst, op, type, pos, after, guard⟩ := o
  have ho' : op = _ := ho
  subst ho'
  have gx : a.tmps[x]?.getD undef = .bool b := by
    have := hx
    simpa [Act.eval, Array.getD_eq_getD_getElem?] using this
  clear ho hx
  go_simp
  exact hK
theorem so_pickF (x y : Nat) {b : Bool} (ho : o.op = Op.pick (.tmp x) (.const (.bool true)) (.tmp y)) (hx : a.eval (.tmp x) = .bool false) (hy : a.eval (.tmp y) = .bool b) (hK : K (a.put o.dst (.bool b)) w) : Oper.wp Tryd.prog o a w K Q := by
  obtain ⟨dst, op, type, pos, after, guard⟩ := o
  have ho' : op = _ := ho
  subst ho'
  have gx : a.tmps[x]?.getD undef = .bool false := by
    have := hx
    simpa [Act.eval, Array.getD_eq_getD_getElem?] using this
  have gy : a.tmps[y]?.getD undef = .bool b := by
    have := hy
    simpa [Act.eval, Array.getD_eq_getD_getElem?] using this
  clear ho hx hy
  go_simp
  exact hK
theorem so_may (x : Nat) (n : Int) {A : Option Addr} {l c : Nat} {b : Bool} (ho : o.op = Op.call { callee := .value (.func 7), args := #[.tmp x, .const (.int .i64 n)], argTypes := #[26, 3] }) (hx : a.eval (.tmp x) = .slice A l c)
    (hc : Calls Tryd.prog 7 #[.slice A l c, .int .i64 n] w fun e w' => e = .returned (.bool b) ∧ Below w.heap.size w w') (hK : ∀ w', Below w.heap.size w w' → K (a.put o.dst (.bool b)) w') : Oper.wp Tryd.prog o a w K Q := by
  obtain ⟨dst, op, type, pos, after, guard⟩ := o
  have ho' : op = _ := ho
  subst ho'
  have gx : a.tmps[x]?.getD undef = .slice A l c := by
    have := hx
    simpa [Act.eval, Array.getD_eq_getD_getElem?] using this
  clear ho hx
  have HC := Lib.hid hc
  clear hc
  go_simp
  refine HC.out.mono ?_
  rintro r w' ⟨rfl, hb⟩
  exact hK w' hb
end
theorem SK.may {W : World} {D : Nat} {A : Option Addr} {l : List St} {c : Nat} {n : Int} {b : Bool} (h : SK W D A l) (hkd : Kd W) (n0 : -9223372036854775808 ≤ n) (n1 : n < 9223372036854775808) (hl : l.length ≤ 9223372036854775807) (hD : D ≤ 4611686018427387903) (hv : mayF D l n = b) :
    Calls Tryd.prog 7 #[.slice A l.length c, .int .i64 n] W fun e w' => e = .returned (.bool b) ∧ Below W.heap.size W w' := by
  rw [← hv]
  exact codemay_of D A c l n n0 n1 0 W.heap.size W hkd h (Nat.le_refl _) hl hD
def S8 (r : Raw) (s : St) : Nat → Value → World → Prop
  | 0 => KV r.v
  | 1 => SlK 5 [s]
  | 2 => KV (.bool false)
  | 3 => KV (.bool false)
  | 4 => StK 5 sRead
  | 5 => KV r.v
  | 6 => SlK 5 [sRead, s]
  | 7 => KV (.bool false)
  | 8 => KV (.bool false)
  | _ => fun _ _ => False
theorem S8.mono (r : Raw) (s : St) (i : Nat) (v : Value) (w w' : World) (b : Below w.heap.size w w') (h : S8 r s i v w) : S8 r s i v w' := by
  match i, h with
  | 0, h => exact h
  | 1, h => exact SlK.mono b h
  | 2, h => exact h
  | 3, h => exact h
  | 4, h => exact StK.mono b h
  | 5, h => exact h
  | 6, h => exact SlK.mono b h
  | 7, h => exact h
  | 8, h => exact h
  | _ + 9, h => exact h.elim
/-- What each guarded operation asks. -/
def asks8 (ops : Array Oper) : Bool := ops.all fun o => match o.guard with | none => true | some (j, want) => j == 3 && want == false
set_option maxRecDepth 100000 in
theorem reg8 {id : Nat} {ops : Array Oper} (hops : ops = opsOf 8) (T : Array Value) (hsz : 79 ≤ T.size) (W : World) (g4 : Nat) (r : Raw) (s : St) (h4 : T.getD 4 undef = .pointer (some ⟨g4, 0, none⟩)) (ht : ∀ w, Below W.heap.size W w → Ten w ⟨g4, 0, none⟩ r) (hs : SA W 5 r s) (hkd : Kd W) (hm1 : mayF 5 [s] 2 = false) (hm2 : mayF 5 [sRead, s] 2 = false) {Q : Exit → Act → World → Prop}
    (hend : ∀ (us : List Value) (w : World), us.length = 9 → Below W.heap.size W w → us.getD 8 undef = .bool false → Q .normal (fr (T.toList.take 70) us (T.toList.drop 79)) w) : (Code.region id ops true).wp Tryd.prog Q ⟨T, []⟩ W := by
  subst hops
  have hos : (opsOf 8).size = 9 := by kernel_rfl
  have hask : asks8 (opsOf 8) = true := by kernel_rfl
  refine wp_region_kindsG (S8 r s) W T 70 (by rw [hos]; exact hsz) (by kernel_rfl) (by kernel_rfl) (fun i o j want ho hg v w hv => ?_) (fun i v w1 w2 _ b h => S8.mono r s i v w1 w2 b h) ?_ ?_
  · unfold asks8 at hask
    have h1 := Array.all_eq_true'.1 hask o (Array.mem_of_getElem? ho)
    rw [hg] at h1
    simp only [Bool.and_eq_true, beq_iff_eq] at h1
    obtain ⟨rfl, rfl⟩ := h1
    exact hv
  · intro i o ho a us wq hu hT hU hb hd K hK
    have hi : i < 9 := by rw [← hos]; exact (Array.getElem?_eq_some_iff.1 ho).1
    rw [hos] at hU
    match i, hi with
    | 0, _ => exact so_load 4 g4 (opAt ho (by kernel_rfl)) ((hT 4 (by decide)).trans h4) (ht wq hb) (hK _ _ (Below.refl _ _) rfl)
    | 1, _ =>
      have d0 : us.getD 0 undef = r.v := waits_of (S := S8 r s) ho hd (j := 0) (by kernel_rfl)
      exact so_slice [r] #[(0, .tmp 70)] (opAt ho (by kernel_rfl)) (by simp) (by simp) (by simp [(hU 0 (by decide)).trans d0]) (fun cur hcur => hK _ _ (b_slice _ _) ⟨_, _, rfl, SK.ofs (l := [s]) (SAs.cons (hs.below hb) SAs.nil) cur hcur⟩)
    | 2, _ =>
      obtain ⟨A1, c1, e1, q1⟩ : SlK 5 [s] (us.getD 1 undef) wq := waits_of (S := S8 r s) ho hd (j := 1) (by kernel_rfl)
      exact so_may 71 2 (opAt ho (by kernel_rfl)) ((hU 1 (by decide)).trans e1) (q1.may (hkd.below hb (Nat.le_refl _)) (by decide) (by decide) (by simp) (by decide) hm1) (fun w2 hb2 => hK _ _ hb2 rfl)
    | 3, _ =>
      have d2 : us.getD 2 undef = .bool false := waits_of (S := S8 r s) ho hd (j := 2) (by kernel_rfl)
      exact so_moveB 72 (opAt ho (by kernel_rfl)) ((hU 2 (by decide)).trans d2) (hK _ _ (Below.refl _ _) rfl)
    | 4, _ => exact so_read (opAt ho (by kernel_rfl)) (fun w2 hb2 => hK _ _ hb2 ⟨rRead, rfl, sa_read _ 3⟩)
    | 5, _ => exact so_load 4 g4 (opAt ho (by kernel_rfl)) ((hT 4 (by decide)).trans h4) (ht wq hb) (hK _ _ (Below.refl _ _) rfl)
    | 6, _ =>
      obtain ⟨r4, e4, q4⟩ : StK 5 sRead (us.getD 4 undef) wq := waits_of (S := S8 r s) ho hd (j := 4) (by kernel_rfl)
      have d5 : us.getD 5 undef = r.v := waits_of (S := S8 r s) ho hd (j := 5) (by kernel_rfl)
      exact so_slice [r4, r] #[(0, .tmp 74), (1, .tmp 75)] (opAt ho (by kernel_rfl)) (by simp) (by simp) (by simp [(hU 4 (by decide)).trans e4, (hU 5 (by decide)).trans d5]) (fun cur hcur => hK _ _ (b_slice _ _) ⟨_, _, rfl, SK.ofs (l := [sRead, s]) (SAs.cons q4 (SAs.cons (hs.below hb) SAs.nil)) cur hcur⟩)
    | 7, _ =>
      obtain ⟨A6, c6, e6, q6⟩ : SlK 5 [sRead, s] (us.getD 6 undef) wq := waits_of (S := S8 r s) ho hd (j := 6) (by kernel_rfl)
      exact so_may 76 2 (opAt ho (by kernel_rfl)) ((hU 6 (by decide)).trans e6) (q6.may (hkd.below hb (Nat.le_refl _)) (by decide) (by decide) (by simp) (by decide) hm2) (fun w2 hb2 => hK _ _ hb2 rfl)
    | 8, _ =>
      have d3 : us.getD 3 undef = .bool false := waits_of (S := S8 r s) ho hd (j := 3) (by kernel_rfl)
      have d7 : us.getD 7 undef = .bool false := waits_of (S := S8 r s) ho hd (j := 7) (by kernel_rfl)
      exact so_pickF 73 77 (opAt ho (by kernel_rfl)) ((hU 3 (by decide)).trans d3) ((hU 7 (by decide)).trans d7) (hK _ _ (Below.refl _ _) rfl)
  · intro us w hu hb hS
    rw [hos] at hu hS ⊢
    exact hend us w hu hb (hS 8 (by decide))
theorem bad_not : ∀ s ∈ badL, mayF 5 [s] 2 = false ∧ mayF 5 [sRead, s] 2 = false := by
  have h : badL.all (fun s => !mayF 5 [s] 2 && !mayF 5 [sRead, s] 2) = true := by decide
  intro s hs
  have := List.all_eq_true.1 h s hs
  simpa using this
theorem good_may : ∀ s ∈ goodL, mayF 5 [s] 3 = true := by
  have h : goodL.all (fun s => mayF 5 [s] 3) = true := by decide
  exact fun s hs => List.all_eq_true.1 h s hs
end Go.Proofs.YtfnbffkiddofnaaDoor
