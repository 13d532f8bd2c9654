/-
  THE DRAWN REGION OF ReadsetPlays: 74 operations, two of which write, in whatever order. Laid by gen/gen_pl.py. Conditions: as they stand.
-/
import Derived.Test.YtmjaphcofimbeaaGr
import Derived.Test.YtmjaphcofimbeaaGt
namespace Go.Proofs.Ytmjaphcofimbeaa
set_option maxRecDepth 100000
open Go.RowKit Go.Deep
set_option linter.unusedVariables false
/-- What a temporary holds: a value; a list, as it lies. -/
inductive Kn10 where
  | val (v : Value)
  | lst (l : List Int)
def Kn10.at : Kn10 → Value → World → Prop
  | .val v, u, _ => u = v
  | .lst l, u, w => ∃ B c, u = .slice B l.length c ∧ Ints w w.heap.size B l
theorem Kn10.more {K : Kn10} {u : Value} {w w' : World} (h : K.at u w) (b : Below w.heap.size w w') : K.at u w' := by
  cases K with
  | val v => exact h
  | lst l =>
    obtain ⟨B, c, e, hI⟩ := h
    exact ⟨B, c, e, hI.at10 b b.size⟩
/-- What the region speaks of. -/
structure PD where
  w0 : World
  p : Addr
  ga : Nat
  gb : Nat
  gx : Nat
  gy : Nat
  lo : Nat
  loy : Nat
  rv : Int
  st : Int
  f : Nat → Bool
  f' : Nat → Bool
  x : Int
  r : Int
  k : Nat
  c : Nat
  len : Nat
  hb : Bool
  hb1 : Bool
structure PDok (D : PD) : Prop where
  pl : (D.p.add D.k).block < D.w0.heap.size
  cell : D.w0.cell? (D.p.add D.k) = some (.int .i64 D.x)
  kl : D.k < D.len
  f' : D.f' = addF D.st D.f D.x
  r : D.r = if 0 ≤ D.x ∧ D.x < D.st then 0 else 1
  s2 : D.st ≤ 32
  hb : D.hb = (decide (0 ≤ D.x ∧ D.x < D.st) && D.f' D.x.toNat)
  hb1 : D.hb1 = (decide (0 ≤ IntKind.i64.wrap (D.x + 1) ∧ IntKind.i64.wrap (D.x + 1) < D.st) && D.f' (IntKind.i64.wrap (D.x + 1)).toNat)
  a0 : D.w0.heap.size ≤ D.ga
  al : D.ga < D.lo
  ab : D.ga < D.gb
  bx : D.gb < D.gx
  by_ : D.gb < D.loy
  yy : D.loy ≤ D.gy
/-- What stands in each temporary. -/
def KP (D : PD) : Nat → Kn10
  | 0 => .val (.pointer (some ⟨D.ga, 0, none⟩))
  | 1 => .val (.slice (some D.p) D.len D.c)
  | 2 => .val (.int .i64 D.k)
  | 3 => .val (.pointer (some (D.p.add D.k)))
  | 4 => .val (.int .i64 D.x)
  | 5 => .val (.int .i64 D.r)
  | 6 => .val (.pointer (some ⟨D.gb, 0, none⟩))
  | 7 => .val (.slice (some D.p) D.len D.c)
  | 8 => .val (.int .i64 D.k)
  | 9 => .val (.pointer (some (D.p.add D.k)))
  | 10 => .val (.int .i64 D.x)
  | 11 => .val (.int .i64 D.r)
  | 12 => .val (.bool false)
  | 13 => .val (.bool false)
  | 14 => .val (.pointer (some ⟨D.ga, 0, none⟩))
  | 15 => .val (.int .i64 D.rv)
  | 16 => .val (.pointer (some ⟨D.gb, 0, none⟩))
  | 17 => .val (.pointer (some ⟨D.gb, 0, none⟩))
  | 18 => .val (.pointer (some ⟨D.gb, 0, none⟩))
  | 19 => .val (.int .i64 D.rv)
  | 20 => .val (.bool false)
  | 21 => .val (.bool false)
  | 22 => .val (.bool false)
  | 23 => .val (.pointer (some ⟨D.ga, 0, none⟩))
  | 24 => .lst (readF D.f' D.st)
  | 25 => .val (.pointer (some ⟨D.gb, 0, none⟩))
  | 26 => .val (.pointer (some ⟨D.gb, 0, none⟩))
  | 27 => .val (.pointer (some ⟨D.gb, 2, none⟩))
  | 28 => .lst (readF D.f' D.st)
  | 29 => .val (.bool true)
  | 30 => .val (.bool false)
  | 31 => .val (.bool false)
  | 32 => .val (.bool false)
  | 33 => .val (.pointer (some ⟨D.gx, 0, none⟩))
  | 34 => .lst (readF D.f D.st)
  | 35 => .val (.pointer (some ⟨D.gy, 0, none⟩))
  | 36 => .val (.pointer (some ⟨D.gy, 0, none⟩))
  | 37 => .val (.pointer (some ⟨D.gy, 2, none⟩))
  | 38 => .lst (readF D.f D.st)
  | 39 => .val (.bool true)
  | 40 => .val (.bool false)
  | 41 => .val (.bool false)
  | 42 => .val (.bool false)
  | 43 => .val (.pointer (some ⟨D.ga, 0, none⟩))
  | 44 => .val (.slice (some D.p) D.len D.c)
  | 45 => .val (.int .i64 D.k)
  | 46 => .val (.pointer (some (D.p.add D.k)))
  | 47 => .val (.int .i64 D.x)
  | 48 => .val (.bool D.hb)
  | 49 => .val (.pointer (some ⟨D.gb, 0, none⟩))
  | 50 => .val (.slice (some D.p) D.len D.c)
  | 51 => .val (.int .i64 D.k)
  | 52 => .val (.pointer (some (D.p.add D.k)))
  | 53 => .val (.int .i64 D.x)
  | 54 => .val (.bool D.hb)
  | 55 => .val (.bool false)
  | 56 => .val (.bool false)
  | 57 => .val (.bool false)
  | 58 => .val (.pointer (some ⟨D.ga, 0, none⟩))
  | 59 => .val (.slice (some D.p) D.len D.c)
  | 60 => .val (.int .i64 D.k)
  | 61 => .val (.pointer (some (D.p.add D.k)))
  | 62 => .val (.int .i64 D.x)
  | 63 => .val (.int .i64 (IntKind.i64.wrap (D.x + 1)))
  | 64 => .val (.bool D.hb1)
  | 65 => .val (.pointer (some ⟨D.gb, 0, none⟩))
  | 66 => .val (.slice (some D.p) D.len D.c)
  | 67 => .val (.int .i64 D.k)
  | 68 => .val (.pointer (some (D.p.add D.k)))
  | 69 => .val (.int .i64 D.x)
  | 70 => .val (.int .i64 (IntKind.i64.wrap (D.x + 1)))
  | 71 => .val (.bool D.hb1)
  | 72 => .val (.bool false)
  | 73 => .val (.bool false)
  | _ => .val undef
theorem KP_early (D : PD) {j : Nat} (h : j < 12) {u : Value} {w : World} (w' : World) (hk : (KP D j).at u w) : (KP D j).at u w' := by
  match j, h with
  | 0, _ | 1, _ | 2, _ | 3, _ | 4, _ | 5, _ | 6, _ | 7, _ | 8, _ | 9, _ | 10, _ | 11, _ => exact hk
  | j + 12, h => exact absurd h (by omega)
structure JP (D : PD) (don : Nat → Bool) (u : Nat → Value) (w : World) : Prop where
  b : Below D.w0.heap.size D.w0 w
  z : D.lo ≤ w.heap.size
  sx : SetAt w D.gx D.rv D.st D.f
  ry : RefAt w D.gy D.loy D.rv D.st (readF D.f D.st)
  sa : SetAt w D.ga D.rv D.st (if don 5 = true then D.f' else D.f)
  rb : RefAt w D.gb D.lo D.rv D.st (readF (if don 11 = true then D.f' else D.f) D.st)
  o1 : don 11 = true → don 5 = true
  o2 : ∀ j, 12 ≤ j → don j = true → don 11 = true
  kv : ∀ j, don j = true → (KP D j).at (u j) w
section
variable {D : PD} {don : Nat → Bool} {u : Nat → Value} {w : World}
theorem JP.cell (h : JP D don u w) (ok : PDok D) : w.cell? (D.p.add D.k) = some (.int .i64 D.x) := (h.b.cell ok.pl).trans ok.cell
theorem JP.sa0 (h : JP D don u w) (hd : don 5 = false) : SetAt w D.ga D.rv D.st D.f := by have := h.sa; rw [hd, if_neg (by decide)] at this; exact this
theorem JP.sa1 (h : JP D don u w) (hd : don 5 = true) : SetAt w D.ga D.rv D.st D.f' := by have := h.sa; rw [if_pos hd] at this; exact this
theorem JP.rb0 (h : JP D don u w) (hd : don 11 = false) : RefAt w D.gb D.lo D.rv D.st (readF D.f D.st) := by have := h.rb; rw [hd, if_neg (by decide)] at this; exact this
theorem JP.rb1 (h : JP D don u w) (hd : don 11 = true) : RefAt w D.gb D.lo D.rv D.st (readF D.f' D.st) := by have := h.rb; rw [if_pos hd] at this; exact this
theorem JP.quiet (h : JP D don u w) (i : Nat) (h5 : i ≠ 5) (h11 : i ≠ 11) (hw : 12 ≤ i → don 11 = true) {v : Value} {w' : World} (b : Below w.heap.size w w') (hv : (KP D i).at v w') : JP D (fun j => j == i || don j) (fun j => if j = i then v else u j) w' := by
  have e : ∀ j, j ≠ i → (j == i || don j) = don j := fun j hj => by rw [beq_eq_false_iff_ne.2 hj, Bool.false_or]
  refine ⟨h.b.trans (b.mono h.b.size), Nat.le_trans h.z b.size, h.sx.below b, h.ry.below b, ?_, ?_, ?_, ?_, ?_⟩
  · simp only [e 5 (Ne.symm h5)]; exact h.sa.below b
  · simp only [e 11 (Ne.symm h11)]; exact h.rb.below b
  · simp only [e 5 (Ne.symm h5), e 11 (Ne.symm h11)]; exact h.o1
  · intro j hj hd
    simp only [e 11 (Ne.symm h11)]
    by_cases hji : j = i
    · exact hw (by omega)
    · exact h.o2 j hj ((e j hji).symm.trans hd)
  · intro j hd
    by_cases hji : j = i
    · subst hji
      rw [if_pos rfl]
      exact hv
    · rw [if_neg hji]
      exact Kn10.more (h.kv j ((e j hji).symm.trans hd)) b
theorem JP.add (h : JP D don u w) (ok : PDok D) (hd : don 5 = false) {w' : World} (hS : SetAt w' D.ga D.rv D.st D.f') (k1 : ∀ b, b ≠ D.ga → w'.heap[b]? = w.heap[b]?) (k2 : w'.heap.size = w.heap.size) (k3 : ∀ B, B ≤ D.ga → Below B w w') : JP D (fun j => j == 5 || don j) (fun j => if j = 5 then .int .i64 D.r else u j) w' := by
  have d11 : don 11 = false := off_of h.o1 hd
  have hab := ok.ab
  have hbx := ok.bx
  refine ⟨h.b.trans (k3 _ ok.a0), by rw [k2]; exact h.z, h.sx.same (k1 _ (by omega)), h.ry.keep D.ga (by have := ok.by_; have := ok.yy; omega) (by have := ok.by_; omega) (fun b hb _ => k1 b hb) (by omega), ?_, ?_, ?_, ?_, ?_⟩
  · simp only [beq_self_eq_true, Bool.true_or, if_true]; exact hS
  · have hr := h.rb.keep D.ga (by omega) ok.al (fun b hb _ => k1 b hb) (Nat.le_of_eq k2.symm)
    simpa using hr
  · intro _; simp
  · intro j hj hd'
    have hji : ¬ j = 5 := by omega
    simp only [beq_eq_false_iff_ne.2 hji, Bool.false_or] at hd'
    have := h.o2 j hj hd'
    rw [d11] at this
    cases this
  · intro j hd'
    by_cases hji : j = 5
    · subst hji
      rw [if_pos rfl]
      rfl
    · rw [if_neg hji]
      simp only [beq_eq_false_iff_ne.2 hji, Bool.false_or] at hd'
      refine KP_early D ?_ w' (h.kv j hd')
      rcases Nat.lt_or_ge j 12 with hlt | hge
      · exact hlt
      · have := h.o2 j hge hd'
        rw [d11] at this
        cases this
theorem JP.radd (h : JP D don u w) (ok : PDok D) (d5 : don 5 = true) (hd : don 11 = false) {w' : World} (hR : RefAt w' D.gb D.lo D.rv D.st (readF D.f' D.st)) (k1 : ∀ b, b ≠ D.gb → b < w.heap.size → w'.heap[b]? = w.heap[b]?) (k2 : w.heap.size ≤ w'.heap.size) (k3 : ∀ (B : Nat) (w0 : World), B ≤ D.gb → Below B w0 w → Below B w0 w') : JP D (fun j => j == 11 || don j) (fun j => if j = 11 then .int .i64 D.r else u j) w' := by
  have hab := ok.ab
  have hbx := ok.bx
  have ha0 := ok.a0
  refine ⟨k3 _ _ (by omega) h.b, Nat.le_trans h.z k2, h.sx.same (k1 _ (by omega) h.sx.lt), h.ry.keep D.gb (by have := ok.by_; have := ok.yy; omega) ok.by_ k1 k2, ?_, ?_, ?_, ?_, ?_⟩
  · have hs : SetAt w' D.ga D.rv D.st D.f' := (h.sa1 d5).same (k1 _ (by omega) h.sa.lt)
    have e : ((5 : Nat) == 11 || don 5) = true := by rw [d5]; rfl
    simp only [e, if_true]
    exact hs
  · simp only [beq_self_eq_true, Bool.true_or, if_true]; exact hR
  · intro _; simp [d5]
  · intro j hj hd'
    simp
  · intro j hd'
    by_cases hji : j = 11
    · subst hji
      rw [if_pos rfl]
      rfl
    · rw [if_neg hji]
      simp only [beq_eq_false_iff_ne.2 hji, Bool.false_or] at hd'
      refine KP_early D ?_ w' (h.kv j hd')
      rcases Nat.lt_or_ge j 12 with hlt | hge
      · exact hlt
      · have := h.o2 j hge hd'
        rw [hd] at this
        cases this
end
noncomputable def opsP (n : Nat) : Array Oper := match Try.f3.body with
  | some c => (regOps10 n c).getD #[]
  | none => #[]
def guardsP (D : PD) : Nat → Bool := fun j => j == 13 || j == 22 || j == 32 || j == 42 || j == 57
theorem guardP {i : Nat} {o : Oper} {j : Nat} {want : Bool} (ho : (opsP 13)[i]? = some o) (hg : o.guard = some (j, want)) : want = false ∧ (j = 13 ∨ j = 22 ∨ j = 32 ∨ j = 42 ∨ j = 57) := by
  have hall : (opsP 13).all (fun o => match o.guard with | none => true | some (j, want) => !want && (j == 13 || j == 22 || j == 32 || j == 42 || j == 57)) = true := by kernel_rfl
  have hm : o ∈ opsP 13 := Array.mem_of_getElem? ho
  have := Array.all_eq_true_iff_forall_mem.1 hall o hm
  rw [hg] at this
  simpa [Bool.or_eq_true, beq_iff_eq, or_assoc] using this
set_option maxRecDepth 100000 in
set_option maxHeartbeats 8000000 in
theorem regPlays {id : Nat} {ops : Array Oper} (hops : ops = opsP 13) (T0 : Array Value) (hsz : 141 ≤ T0.size) (W : World) (D : PD) (ok : PDok D) (h2 : T0[2]? = some (.slice (some D.p) D.len D.c)) (h7 : T0[7]? = some (.pointer (some ⟨D.ga, 0, none⟩))) (h9 : T0[9]? = some (.pointer (some ⟨D.gb, 0, none⟩))) (h11 : T0[11]? = some (.int .i64 D.k)) (h12 : T0[12]? = some (.pointer (some ⟨D.gx, 0, none⟩))) (h13 : T0[13]? = some (.pointer (some ⟨D.gy, 0, none⟩)))
    (hb : Below D.w0.heap.size D.w0 W) (hz : D.lo ≤ W.heap.size) (hsx : SetAt W D.gx D.rv D.st D.f) (hry : RefAt W D.gy D.loy D.rv D.st (readF D.f D.st)) (hsa : SetAt W D.ga D.rv D.st D.f) (hrb : RefAt W D.gb D.lo D.rv D.st (readF D.f D.st)) {Q : Exit → Act → World → Prop}
    (hend : ∀ (us : List Value) (w : World), us.length = 74 → us.getD 73 undef = .bool false → Below D.w0.heap.size D.w0 w → D.lo ≤ w.heap.size → SetAt w D.ga D.rv D.st D.f' → RefAt w D.gb D.lo D.rv D.st (readF D.f' D.st) → Q .normal (fr (T0.toList.take 55) us (T0.toList.drop 129)) w) :
    (Code.region id ops true).wp Try.prog Q ⟨T0, []⟩ W := by
  subst hops
  have hos : (opsP 13).size = 74 := by kernel_rfl
  refine wp_region_stG (JP D) W T0 55 (by omega) (by kernel_rfl) (by kernel_rfl) (fun i o j want ho hg don u w hJ hd => ?_) (fun u => ⟨hb.drew, hz, hsx.below (Below.refl _ _).drew, hry.below (Below.refl _ _).drew, by simpa using hsa.below (Below.refl _ _).drew, by simpa using hrb.below (Below.refl _ _).drew, by simp, by simp, by simp⟩) ?_ ?_
  · obtain ⟨rfl, h⟩ := guardP ho hg
    rcases h with rfl | rfl | rfl | rfl | rfl <;> exact hJ.kv _ hd
  · intro i o ho don u a w hT0 hU0 hdi hdone hJ K hK
    have hi : i < 74 := by
      have := (Array.getElem?_eq_some_iff.1 ho).1
      omega
    have hwait : ∀ j, waits10 (opsP 13) i j = true → don j = true := fun j hj => waits10_of (P := fun j => don j = true) ho hdone hj
    have hv : ∀ j, waits10 (opsP 13) i j = true → (KP D j).at (u j) w := fun j hj => hJ.kv j (hwait j hj)
    have hU : ∀ j, j < 74 → ∀ v, u j = v → a.tmps[55 + j]?.getD undef = v := fun j hj v h => by
      rw [hU0 j (by omega), h]
    have hT : ∀ t v, t < 55 → T0[t]? = some v → a.tmps[t]?.getD undef = v := fun t v ht h => by
      rw [hT0 t ht, h]
      rfl
    clear hdone hU0 hT0
    match i, hi with
    | 0, _ =>
      exact i_move 7 (opAt10 ho (by kernel_rfl)) (hT 7 _ (by decide) h7) (hK _ _ (hJ.quiet 0 (by decide) (by decide) (fun h => by omega) (Below.refl _ _) rfl))
    | 1, _ =>
      exact i_move 2 (opAt10 ho (by kernel_rfl)) (hT 2 _ (by decide) h2) (hK _ _ (hJ.quiet 1 (by decide) (by decide) (fun h => by omega) (Below.refl _ _) rfl))
    | 2, _ =>
      exact i_move 11 (opAt10 ho (by kernel_rfl)) (hT 11 _ (by decide) h11) (hK _ _ (hJ.quiet 2 (by decide) (by decide) (fun h => by omega) (Below.refl _ _) rfl))
    | 3, _ =>
      exact o_index 56 57 D.p D.len D.c D.k ok.kl (opAt10 ho (by kernel_rfl)) (hU 1 (by decide) _ (hv 1 (by kernel_rfl))) (hU 2 (by decide) _ (hv 2 (by kernel_rfl))) (hK _ _ (hJ.quiet 3 (by decide) (by decide) (fun h => by omega) (Below.refl _ _) rfl))
    | 4, _ =>
      exact o_int 58 (D.p.add D.k) (opAt10 ho (by kernel_rfl)) (hU 3 (by decide) _ (hv 3 (by kernel_rfl))) (hJ.cell ok) (hK _ _ (hJ.quiet 4 (by decide) (by decide) (fun h => by omega) (Below.refl _ _) rfl))
    | 5, _ =>
      refine o_add 55 59 (opAt10 ho (by kernel_rfl)) (hU 0 (by decide) _ (hv 0 (by kernel_rfl))) (hU 4 (by decide) _ (hv 4 (by kernel_rfl))) (add_any (hJ.sa0 hdi) D.x) ?_
      rintro e w' ⟨rfl, hS, k1, k2, k3⟩
      rw [← ok.r] 
      exact ⟨_, rfl, hK _ _ (hJ.add ok hdi (by rw [ok.f']; exact hS) k1 k2 k3)⟩
    | 6, _ =>
      exact i_move 9 (opAt10 ho (by kernel_rfl)) (hT 9 _ (by decide) h9) (hK _ _ (hJ.quiet 6 (by decide) (by decide) (fun h => by omega) (Below.refl _ _) rfl))
    | 7, _ =>
      exact i_move 2 (opAt10 ho (by kernel_rfl)) (hT 2 _ (by decide) h2) (hK _ _ (hJ.quiet 7 (by decide) (by decide) (fun h => by omega) (Below.refl _ _) rfl))
    | 8, _ =>
      exact i_move 11 (opAt10 ho (by kernel_rfl)) (hT 11 _ (by decide) h11) (hK _ _ (hJ.quiet 8 (by decide) (by decide) (fun h => by omega) (Below.refl _ _) rfl))
    | 9, _ =>
      exact o_index 62 63 D.p D.len D.c D.k ok.kl (opAt10 ho (by kernel_rfl)) (hU 7 (by decide) _ (hv 7 (by kernel_rfl))) (hU 8 (by decide) _ (hv 8 (by kernel_rfl))) (hK _ _ (hJ.quiet 9 (by decide) (by decide) (fun h => by omega) (Below.refl _ _) rfl))
    | 10, _ =>
      exact o_int 64 (D.p.add D.k) (opAt10 ho (by kernel_rfl)) (hU 9 (by decide) _ (hv 9 (by kernel_rfl))) (hJ.cell ok) (hK _ _ (hJ.quiet 10 (by decide) (by decide) (fun h => by omega) (Below.refl _ _) rfl))
    | 11, _ =>
      refine o_radd 61 65 (opAt10 ho (by kernel_rfl)) (hU 6 (by decide) _ (hv 6 (by kernel_rfl))) (hU 10 (by decide) _ (hv 10 (by kernel_rfl))) (radd_any (hJ.rb0 hdi) D.x hJ.z ok.s2) ?_
      rintro e w' ⟨rfl, hR, k1, k2, k3⟩
      rw [← ok.r]
      exact ⟨_, rfl, hK _ _ (hJ.radd ok (hwait 5 (by kernel_rfl)) hdi (by rw [ok.f']; exact hR) k1 k2 k3)⟩
    | 12, _ =>
      exact o_neqE 60 66 (opAt10 ho (by kernel_rfl)) (hU 5 (by decide) _ (hv 5 (by kernel_rfl))) (hU 11 (by decide) _ (hv 11 (by kernel_rfl))) (hK _ _ (hJ.quiet 12 (by decide) (by decide) (fun _ => hwait 11 (by kernel_rfl)) (Below.refl _ _) rfl))
    | 13, _ =>
      exact i_move 67 (opAt10 ho (by kernel_rfl)) (hU 12 (by decide) _ (hv 12 (by kernel_rfl))) (hK _ _ (hJ.quiet 13 (by decide) (by decide) (fun _ => hJ.o2 12 (by decide) (hwait 12 (by kernel_rfl))) (Below.refl _ _) rfl))
    | 14, _ =>
      exact i_move 7 (opAt10 ho (by kernel_rfl)) (hT 7 _ (by decide) h7) (hK _ _ (hJ.quiet 14 (by decide) (by decide) (fun _ => hJ.o2 13 (by decide) (hwait 13 (by kernel_rfl))) (Below.refl _ _) rfl))
    | 15, _ =>
      refine o_rv 69 (opAt10 ho (by kernel_rfl)) (hU 14 (by decide) _ (hv 14 (by kernel_rfl))) (rv_any hJ.sa) ?_
      rintro e w' ⟨rfl, rfl⟩
      exact ⟨_, rfl, hK _ _ (hJ.quiet 15 (by decide) (by decide) (fun _ => hJ.o2 13 (by decide) (hwait 13 (by kernel_rfl))) (Below.refl _ _) rfl)⟩
    | 16, _ =>
      exact i_move 9 (opAt10 ho (by kernel_rfl)) (hT 9 _ (by decide) h9) (hK _ _ (hJ.quiet 16 (by decide) (by decide) (fun _ => hJ.o2 13 (by decide) (hwait 13 (by kernel_rfl))) (Below.refl _ _) rfl))
    | 17, _ =>
      exact i_nil 71 D.gb (opAt10 ho (by kernel_rfl)) (hU 16 (by decide) _ (hv 16 (by kernel_rfl))) (hK _ _ (hJ.quiet 17 (by decide) (by decide) (fun _ => hJ.o2 13 (by decide) (hwait 13 (by kernel_rfl))) (Below.refl _ _) rfl))
    | 18, _ =>
      exact o_field0 72 D.gb (opAt10 ho (by kernel_rfl)) (hU 17 (by decide) _ (hv 17 (by kernel_rfl))) (hK _ _ (hJ.quiet 18 (by decide) (by decide) (fun _ => hJ.o2 13 (by decide) (hwait 13 (by kernel_rfl))) (Below.refl _ _) rfl))
    | 19, _ =>
      exact o_int 73 ⟨D.gb, 0, none⟩ (opAt10 ho (by kernel_rfl)) (hU 18 (by decide) _ (hv 18 (by kernel_rfl))) hJ.rb.c0 (hK _ _ (hJ.quiet 19 (by decide) (by decide) (fun _ => hJ.o2 13 (by decide) (hwait 13 (by kernel_rfl))) (Below.refl _ _) rfl))
    | 20, _ =>
      exact o_neqI 70 74 (opAt10 ho (by kernel_rfl)) (hU 15 (by decide) _ (hv 15 (by kernel_rfl))) (hU 19 (by decide) _ (hv 19 (by kernel_rfl))) (hK _ _ (hJ.quiet 20 (by decide) (by decide) (fun _ => hJ.o2 13 (by decide) (hwait 13 (by kernel_rfl))) (Below.refl _ _) rfl))
    | 21, _ =>
      exact o_pick 68 75 (opAt10 ho (by kernel_rfl)) (hU 13 (by decide) _ (hv 13 (by kernel_rfl))) (hU 20 (by decide) _ (hv 20 (by kernel_rfl))) (hK _ _ (hJ.quiet 21 (by decide) (by decide) (fun _ => hJ.o2 13 (by decide) (hwait 13 (by kernel_rfl))) (Below.refl _ _) rfl))
    | 22, _ =>
      exact i_move 76 (opAt10 ho (by kernel_rfl)) (hU 21 (by decide) _ (hv 21 (by kernel_rfl))) (hK _ _ (hJ.quiet 22 (by decide) (by decide) (fun _ => hJ.o2 21 (by decide) (hwait 21 (by kernel_rfl))) (Below.refl _ _) rfl))
    | 23, _ =>
      exact i_move 7 (opAt10 ho (by kernel_rfl)) (hT 7 _ (by decide) h7) (hK _ _ (hJ.quiet 23 (by decide) (by decide) (fun _ => hJ.o2 22 (by decide) (hwait 22 (by kernel_rfl))) (Below.refl _ _) rfl))
    | 24, _ =>
      refine o_all 78 (opAt10 ho (by kernel_rfl)) (hU 23 (by decide) _ (hv 23 (by kernel_rfl))) (all_any (hJ.sa1 (hJ.o1 (hJ.o2 22 (by decide) (hwait 22 (by kernel_rfl)))))) ?_
      rintro e w' ⟨A, c, rfl, hI, _, b⟩
      exact ⟨_, rfl, hK _ _ (hJ.quiet 24 (by decide) (by decide) (fun _ => hJ.o2 22 (by decide) (hwait 22 (by kernel_rfl))) b ⟨_, _, rfl, hI⟩)⟩
    | 25, _ =>
      exact i_move 9 (opAt10 ho (by kernel_rfl)) (hT 9 _ (by decide) h9) (hK _ _ (hJ.quiet 25 (by decide) (by decide) (fun _ => hJ.o2 22 (by decide) (hwait 22 (by kernel_rfl))) (Below.refl _ _) rfl))
    | 26, _ =>
      exact i_nil 80 D.gb (opAt10 ho (by kernel_rfl)) (hU 25 (by decide) _ (hv 25 (by kernel_rfl))) (hK _ _ (hJ.quiet 26 (by decide) (by decide) (fun _ => hJ.o2 22 (by decide) (hwait 22 (by kernel_rfl))) (Below.refl _ _) rfl))
    | 27, _ =>
      exact i_field 81 D.gb (opAt10 ho (by kernel_rfl)) (hU 26 (by decide) _ (hv 26 (by kernel_rfl))) (hK _ _ (hJ.quiet 27 (by decide) (by decide) (fun _ => hJ.o2 22 (by decide) (hwait 22 (by kernel_rfl))) (Below.refl _ _) rfl))
    | 28, _ =>
      have hR : RefAt w D.gb D.lo D.rv D.st (readF D.f' D.st) := by have h := hJ.rb; rw [hJ.o2 22 (by decide) (hwait 22 (by kernel_rfl)), if_pos rfl] at h; exact h
      obtain ⟨B, c, hr, hI, _⟩ := hR.ex
      exact i_load 82 D.gb (opAt10 ho (by kernel_rfl)) (hU 27 (by decide) _ (hv 27 (by kernel_rfl))) (by simp [World.cell?, hr]) (hK _ _ (hJ.quiet 28 (by decide) (by decide) (fun _ => hJ.o2 22 (by decide) (hwait 22 (by kernel_rfl))) (Below.refl _ _) ⟨B, c, rfl, hI⟩))
    | 29, _ =>
      obtain ⟨B1, c1, e1, hI1⟩ := hJ.kv 24 (hwait 24 (by kernel_rfl))
      obtain ⟨B2, c2, e2, hI2⟩ := hJ.kv 28 (hwait 28 (by kernel_rfl))
      refine o_numbers 79 83 (opAt10 ho (by kernel_rfl)) (hU 24 (by decide) _ e1) (hU 28 (by decide) _ e2) (numbers_same _ _ _ _ _ _ _ _ w hI1 hI2 (Nat.le_refl _) (Nat.le_refl _)) ?_
      rintro e w' ⟨rfl, b⟩
      exact ⟨_, rfl, hK _ _ (hJ.quiet 29 (by decide) (by decide) (fun _ => hJ.o2 22 (by decide) (hwait 22 (by kernel_rfl))) b (by show Value.bool _ = _; rw [decide_eq_true rfl]))⟩
    | 30, _ =>
      exact o_not 84 (opAt10 ho (by kernel_rfl)) (hU 29 (by decide) _ (hv 29 (by kernel_rfl))) (hK _ _ (hJ.quiet 30 (by decide) (by decide) (fun _ => hJ.o2 22 (by decide) (hwait 22 (by kernel_rfl))) (Below.refl _ _) rfl))
    | 31, _ =>
      exact o_pick 77 85 (opAt10 ho (by kernel_rfl)) (hU 22 (by decide) _ (hv 22 (by kernel_rfl))) (hU 30 (by decide) _ (hv 30 (by kernel_rfl))) (hK _ _ (hJ.quiet 31 (by decide) (by decide) (fun _ => hJ.o2 22 (by decide) (hwait 22 (by kernel_rfl))) (Below.refl _ _) rfl))
    | 32, _ =>
      exact i_move 86 (opAt10 ho (by kernel_rfl)) (hU 31 (by decide) _ (hv 31 (by kernel_rfl))) (hK _ _ (hJ.quiet 32 (by decide) (by decide) (fun _ => hJ.o2 31 (by decide) (hwait 31 (by kernel_rfl))) (Below.refl _ _) rfl))
    | 33, _ =>
      exact i_move 12 (opAt10 ho (by kernel_rfl)) (hT 12 _ (by decide) h12) (hK _ _ (hJ.quiet 33 (by decide) (by decide) (fun _ => hJ.o2 32 (by decide) (hwait 32 (by kernel_rfl))) (Below.refl _ _) rfl))
    | 34, _ =>
      refine o_all 88 (opAt10 ho (by kernel_rfl)) (hU 33 (by decide) _ (hv 33 (by kernel_rfl))) (all_any hJ.sx) ?_
      rintro e w' ⟨A, c, rfl, hI, _, b⟩
      exact ⟨_, rfl, hK _ _ (hJ.quiet 34 (by decide) (by decide) (fun _ => hJ.o2 32 (by decide) (hwait 32 (by kernel_rfl))) b ⟨_, _, rfl, hI⟩)⟩
    | 35, _ =>
      exact i_move 13 (opAt10 ho (by kernel_rfl)) (hT 13 _ (by decide) h13) (hK _ _ (hJ.quiet 35 (by decide) (by decide) (fun _ => hJ.o2 32 (by decide) (hwait 32 (by kernel_rfl))) (Below.refl _ _) rfl))
    | 36, _ =>
      exact i_nil 90 D.gy (opAt10 ho (by kernel_rfl)) (hU 35 (by decide) _ (hv 35 (by kernel_rfl))) (hK _ _ (hJ.quiet 36 (by decide) (by decide) (fun _ => hJ.o2 32 (by decide) (hwait 32 (by kernel_rfl))) (Below.refl _ _) rfl))
    | 37, _ =>
      exact i_field 91 D.gy (opAt10 ho (by kernel_rfl)) (hU 36 (by decide) _ (hv 36 (by kernel_rfl))) (hK _ _ (hJ.quiet 37 (by decide) (by decide) (fun _ => hJ.o2 32 (by decide) (hwait 32 (by kernel_rfl))) (Below.refl _ _) rfl))
    | 38, _ =>
      have hR : RefAt w D.gy D.loy D.rv D.st (readF D.f D.st) := hJ.ry
      obtain ⟨B, c, hr, hI, _⟩ := hR.ex
      exact i_load 92 D.gy (opAt10 ho (by kernel_rfl)) (hU 37 (by decide) _ (hv 37 (by kernel_rfl))) (by simp [World.cell?, hr]) (hK _ _ (hJ.quiet 38 (by decide) (by decide) (fun _ => hJ.o2 32 (by decide) (hwait 32 (by kernel_rfl))) (Below.refl _ _) ⟨B, c, rfl, hI⟩))
    | 39, _ =>
      obtain ⟨B1, c1, e1, hI1⟩ := hJ.kv 34 (hwait 34 (by kernel_rfl))
      obtain ⟨B2, c2, e2, hI2⟩ := hJ.kv 38 (hwait 38 (by kernel_rfl))
      refine o_numbers 89 93 (opAt10 ho (by kernel_rfl)) (hU 34 (by decide) _ e1) (hU 38 (by decide) _ e2) (numbers_same _ _ _ _ _ _ _ _ w hI1 hI2 (Nat.le_refl _) (Nat.le_refl _)) ?_
      rintro e w' ⟨rfl, b⟩
      exact ⟨_, rfl, hK _ _ (hJ.quiet 39 (by decide) (by decide) (fun _ => hJ.o2 32 (by decide) (hwait 32 (by kernel_rfl))) b (by show Value.bool _ = _; rw [decide_eq_true rfl]))⟩
    | 40, _ =>
      exact o_not 94 (opAt10 ho (by kernel_rfl)) (hU 39 (by decide) _ (hv 39 (by kernel_rfl))) (hK _ _ (hJ.quiet 40 (by decide) (by decide) (fun _ => hJ.o2 32 (by decide) (hwait 32 (by kernel_rfl))) (Below.refl _ _) rfl))
    | 41, _ =>
      exact o_pick 87 95 (opAt10 ho (by kernel_rfl)) (hU 32 (by decide) _ (hv 32 (by kernel_rfl))) (hU 40 (by decide) _ (hv 40 (by kernel_rfl))) (hK _ _ (hJ.quiet 41 (by decide) (by decide) (fun _ => hJ.o2 32 (by decide) (hwait 32 (by kernel_rfl))) (Below.refl _ _) rfl))
    | 42, _ =>
      exact i_move 96 (opAt10 ho (by kernel_rfl)) (hU 41 (by decide) _ (hv 41 (by kernel_rfl))) (hK _ _ (hJ.quiet 42 (by decide) (by decide) (fun _ => hJ.o2 41 (by decide) (hwait 41 (by kernel_rfl))) (Below.refl _ _) rfl))
    | 43, _ =>
      exact i_move 7 (opAt10 ho (by kernel_rfl)) (hT 7 _ (by decide) h7) (hK _ _ (hJ.quiet 43 (by decide) (by decide) (fun _ => hJ.o2 42 (by decide) (hwait 42 (by kernel_rfl))) (Below.refl _ _) rfl))
    | 44, _ =>
      exact i_move 2 (opAt10 ho (by kernel_rfl)) (hT 2 _ (by decide) h2) (hK _ _ (hJ.quiet 44 (by decide) (by decide) (fun _ => hJ.o2 42 (by decide) (hwait 42 (by kernel_rfl))) (Below.refl _ _) rfl))
    | 45, _ =>
      exact i_move 11 (opAt10 ho (by kernel_rfl)) (hT 11 _ (by decide) h11) (hK _ _ (hJ.quiet 45 (by decide) (by decide) (fun _ => hJ.o2 42 (by decide) (hwait 42 (by kernel_rfl))) (Below.refl _ _) rfl))
    | 46, _ =>
      exact o_index 99 100 D.p D.len D.c D.k ok.kl (opAt10 ho (by kernel_rfl)) (hU 44 (by decide) _ (hv 44 (by kernel_rfl))) (hU 45 (by decide) _ (hv 45 (by kernel_rfl))) (hK _ _ (hJ.quiet 46 (by decide) (by decide) (fun _ => hJ.o2 42 (by decide) (hwait 42 (by kernel_rfl))) (Below.refl _ _) rfl))
    | 47, _ =>
      exact o_int 101 (D.p.add D.k) (opAt10 ho (by kernel_rfl)) (hU 46 (by decide) _ (hv 46 (by kernel_rfl))) (hJ.cell ok) (hK _ _ (hJ.quiet 47 (by decide) (by decide) (fun _ => hJ.o2 42 (by decide) (hwait 42 (by kernel_rfl))) (Below.refl _ _) rfl))
    | 48, _ =>
      refine o_has 98 102 (opAt10 ho (by kernel_rfl)) (hU 43 (by decide) _ (hv 43 (by kernel_rfl))) (hU 47 (by decide) _ (hv 47 (by kernel_rfl))) ((has_any (hJ.sa1 (hJ.o1 (hJ.o2 42 (by decide) (hwait 42 (by kernel_rfl))))) D.x)) ?_
      rintro e w' ⟨rfl, rfl⟩
      exact ⟨_, rfl, hK _ _ (hJ.quiet 48 (by decide) (by decide) (fun _ => hJ.o2 42 (by decide) (hwait 42 (by kernel_rfl))) (Below.refl _ _) (by show Value.bool _ = _; rw [ok.hb]))⟩
    | 49, _ =>
      exact i_move 9 (opAt10 ho (by kernel_rfl)) (hT 9 _ (by decide) h9) (hK _ _ (hJ.quiet 49 (by decide) (by decide) (fun _ => hJ.o2 42 (by decide) (hwait 42 (by kernel_rfl))) (Below.refl _ _) rfl))
    | 50, _ =>
      exact i_move 2 (opAt10 ho (by kernel_rfl)) (hT 2 _ (by decide) h2) (hK _ _ (hJ.quiet 50 (by decide) (by decide) (fun _ => hJ.o2 42 (by decide) (hwait 42 (by kernel_rfl))) (Below.refl _ _) rfl))
    | 51, _ =>
      exact i_move 11 (opAt10 ho (by kernel_rfl)) (hT 11 _ (by decide) h11) (hK _ _ (hJ.quiet 51 (by decide) (by decide) (fun _ => hJ.o2 42 (by decide) (hwait 42 (by kernel_rfl))) (Below.refl _ _) rfl))
    | 52, _ =>
      exact o_index 105 106 D.p D.len D.c D.k ok.kl (opAt10 ho (by kernel_rfl)) (hU 50 (by decide) _ (hv 50 (by kernel_rfl))) (hU 51 (by decide) _ (hv 51 (by kernel_rfl))) (hK _ _ (hJ.quiet 52 (by decide) (by decide) (fun _ => hJ.o2 42 (by decide) (hwait 42 (by kernel_rfl))) (Below.refl _ _) rfl))
    | 53, _ =>
      exact o_int 107 (D.p.add D.k) (opAt10 ho (by kernel_rfl)) (hU 52 (by decide) _ (hv 52 (by kernel_rfl))) (hJ.cell ok) (hK _ _ (hJ.quiet 53 (by decide) (by decide) (fun _ => hJ.o2 42 (by decide) (hwait 42 (by kernel_rfl))) (Below.refl _ _) rfl))
    | 54, _ =>
      refine o_rhas 104 108 (opAt10 ho (by kernel_rfl)) (hU 49 (by decide) _ (hv 49 (by kernel_rfl))) (hU 53 (by decide) _ (hv 53 (by kernel_rfl))) ((rhas_any (hJ.rb1 (hJ.o2 42 (by decide) (hwait 42 (by kernel_rfl)))) D.x)) ?_
      rintro e w' ⟨rfl, rfl⟩
      exact ⟨_, rfl, hK _ _ (hJ.quiet 54 (by decide) (by decide) (fun _ => hJ.o2 42 (by decide) (hwait 42 (by kernel_rfl))) (Below.refl _ _) (by show Value.bool _ = _; rw [ok.hb, has_eq]))⟩
    | 55, _ =>
      exact o_neqB 103 109 (opAt10 ho (by kernel_rfl)) (hU 48 (by decide) _ (hv 48 (by kernel_rfl))) (hU 54 (by decide) _ (hv 54 (by kernel_rfl))) (hK _ _ (hJ.quiet 55 (by decide) (by decide) (fun _ => hJ.o2 42 (by decide) (hwait 42 (by kernel_rfl))) (Below.refl _ _) rfl))
    | 56, _ =>
      exact o_pick 97 110 (opAt10 ho (by kernel_rfl)) (hU 42 (by decide) _ (hv 42 (by kernel_rfl))) (hU 55 (by decide) _ (hv 55 (by kernel_rfl))) (hK _ _ (hJ.quiet 56 (by decide) (by decide) (fun _ => hJ.o2 42 (by decide) (hwait 42 (by kernel_rfl))) (Below.refl _ _) rfl))
    | 57, _ =>
      exact i_move 111 (opAt10 ho (by kernel_rfl)) (hU 56 (by decide) _ (hv 56 (by kernel_rfl))) (hK _ _ (hJ.quiet 57 (by decide) (by decide) (fun _ => hJ.o2 56 (by decide) (hwait 56 (by kernel_rfl))) (Below.refl _ _) rfl))
    | 58, _ =>
      exact i_move 7 (opAt10 ho (by kernel_rfl)) (hT 7 _ (by decide) h7) (hK _ _ (hJ.quiet 58 (by decide) (by decide) (fun _ => hJ.o2 57 (by decide) (hwait 57 (by kernel_rfl))) (Below.refl _ _) rfl))
    | 59, _ =>
      exact i_move 2 (opAt10 ho (by kernel_rfl)) (hT 2 _ (by decide) h2) (hK _ _ (hJ.quiet 59 (by decide) (by decide) (fun _ => hJ.o2 57 (by decide) (hwait 57 (by kernel_rfl))) (Below.refl _ _) rfl))
    | 60, _ =>
      exact i_move 11 (opAt10 ho (by kernel_rfl)) (hT 11 _ (by decide) h11) (hK _ _ (hJ.quiet 60 (by decide) (by decide) (fun _ => hJ.o2 57 (by decide) (hwait 57 (by kernel_rfl))) (Below.refl _ _) rfl))
    | 61, _ =>
      exact o_index 114 115 D.p D.len D.c D.k ok.kl (opAt10 ho (by kernel_rfl)) (hU 59 (by decide) _ (hv 59 (by kernel_rfl))) (hU 60 (by decide) _ (hv 60 (by kernel_rfl))) (hK _ _ (hJ.quiet 61 (by decide) (by decide) (fun _ => hJ.o2 57 (by decide) (hwait 57 (by kernel_rfl))) (Below.refl _ _) rfl))
    | 62, _ =>
      exact o_int 116 (D.p.add D.k) (opAt10 ho (by kernel_rfl)) (hU 61 (by decide) _ (hv 61 (by kernel_rfl))) (hJ.cell ok) (hK _ _ (hJ.quiet 62 (by decide) (by decide) (fun _ => hJ.o2 57 (by decide) (hwait 57 (by kernel_rfl))) (Below.refl _ _) rfl))
    | 63, _ =>
      exact o_add1 117 (opAt10 ho (by kernel_rfl)) (hU 62 (by decide) _ (hv 62 (by kernel_rfl))) (hK _ _ (hJ.quiet 63 (by decide) (by decide) (fun _ => hJ.o2 57 (by decide) (hwait 57 (by kernel_rfl))) (Below.refl _ _) rfl))
    | 64, _ =>
      refine o_has 113 118 (opAt10 ho (by kernel_rfl)) (hU 58 (by decide) _ (hv 58 (by kernel_rfl))) (hU 63 (by decide) _ (hv 63 (by kernel_rfl))) ((has_any (hJ.sa1 (hJ.o1 (hJ.o2 57 (by decide) (hwait 57 (by kernel_rfl))))) (IntKind.i64.wrap (D.x + 1)))) ?_
      rintro e w' ⟨rfl, rfl⟩
      exact ⟨_, rfl, hK _ _ (hJ.quiet 64 (by decide) (by decide) (fun _ => hJ.o2 57 (by decide) (hwait 57 (by kernel_rfl))) (Below.refl _ _) (by show Value.bool _ = _; rw [ok.hb1]))⟩
    | 65, _ =>
      exact i_move 9 (opAt10 ho (by kernel_rfl)) (hT 9 _ (by decide) h9) (hK _ _ (hJ.quiet 65 (by decide) (by decide) (fun _ => hJ.o2 57 (by decide) (hwait 57 (by kernel_rfl))) (Below.refl _ _) rfl))
    | 66, _ =>
      exact i_move 2 (opAt10 ho (by kernel_rfl)) (hT 2 _ (by decide) h2) (hK _ _ (hJ.quiet 66 (by decide) (by decide) (fun _ => hJ.o2 57 (by decide) (hwait 57 (by kernel_rfl))) (Below.refl _ _) rfl))
    | 67, _ =>
      exact i_move 11 (opAt10 ho (by kernel_rfl)) (hT 11 _ (by decide) h11) (hK _ _ (hJ.quiet 67 (by decide) (by decide) (fun _ => hJ.o2 57 (by decide) (hwait 57 (by kernel_rfl))) (Below.refl _ _) rfl))
    | 68, _ =>
      exact o_index 121 122 D.p D.len D.c D.k ok.kl (opAt10 ho (by kernel_rfl)) (hU 66 (by decide) _ (hv 66 (by kernel_rfl))) (hU 67 (by decide) _ (hv 67 (by kernel_rfl))) (hK _ _ (hJ.quiet 68 (by decide) (by decide) (fun _ => hJ.o2 57 (by decide) (hwait 57 (by kernel_rfl))) (Below.refl _ _) rfl))
    | 69, _ =>
      exact o_int 123 (D.p.add D.k) (opAt10 ho (by kernel_rfl)) (hU 68 (by decide) _ (hv 68 (by kernel_rfl))) (hJ.cell ok) (hK _ _ (hJ.quiet 69 (by decide) (by decide) (fun _ => hJ.o2 57 (by decide) (hwait 57 (by kernel_rfl))) (Below.refl _ _) rfl))
    | 70, _ =>
      exact o_add1 124 (opAt10 ho (by kernel_rfl)) (hU 69 (by decide) _ (hv 69 (by kernel_rfl))) (hK _ _ (hJ.quiet 70 (by decide) (by decide) (fun _ => hJ.o2 57 (by decide) (hwait 57 (by kernel_rfl))) (Below.refl _ _) rfl))
    | 71, _ =>
      refine o_rhas 120 125 (opAt10 ho (by kernel_rfl)) (hU 65 (by decide) _ (hv 65 (by kernel_rfl))) (hU 70 (by decide) _ (hv 70 (by kernel_rfl))) ((rhas_any (hJ.rb1 (hJ.o2 57 (by decide) (hwait 57 (by kernel_rfl)))) (IntKind.i64.wrap (D.x + 1)))) ?_
      rintro e w' ⟨rfl, rfl⟩
      exact ⟨_, rfl, hK _ _ (hJ.quiet 71 (by decide) (by decide) (fun _ => hJ.o2 57 (by decide) (hwait 57 (by kernel_rfl))) (Below.refl _ _) (by show Value.bool _ = _; rw [ok.hb1, has_eq]))⟩
    | 72, _ =>
      exact o_neqB 119 126 (opAt10 ho (by kernel_rfl)) (hU 64 (by decide) _ (hv 64 (by kernel_rfl))) (hU 71 (by decide) _ (hv 71 (by kernel_rfl))) (hK _ _ (hJ.quiet 72 (by decide) (by decide) (fun _ => hJ.o2 57 (by decide) (hwait 57 (by kernel_rfl))) (Below.refl _ _) rfl))
    | 73, _ =>
      exact o_pick 112 127 (opAt10 ho (by kernel_rfl)) (hU 57 (by decide) _ (hv 57 (by kernel_rfl))) (hU 72 (by decide) _ (hv 72 (by kernel_rfl))) (hK _ _ (hJ.quiet 73 (by decide) (by decide) (fun _ => hJ.o2 57 (by decide) (hwait 57 (by kernel_rfl))) (Below.refl _ _) rfl))
    | i + 74, h => exact absurd (show i + 74 < 74 from h) (by omega)
  · intro us w hu hJ
    rw [hos] at hu
    have h74 : ∀ j, j < 74 → decide (j < (opsP 13).size) = true := fun j hj => decide_eq_true (by omega)
    rw [hos]
    refine hend us w hu (hJ.kv 73 (h74 73 (by omega))) hJ.b hJ.z (hJ.sa1 (h74 5 (by omega))) (hJ.rb1 (h74 11 (by omega)))
end Go.Proofs.Ytmjaphcofimbeaa
