/-
  CONTRACT OF PACKAGE code's Count: how many statements and expressions; the memory that was there stays as it was. Conditions: as they stand.
-/
import Derived.Test.YtnkdaehmdcpafaaDoorCd
import Derived.Test.YtnkdaehmdcpafaaDoorCc
import Derived.Test.YtnkdaehmdcpafaaDoorRd
namespace Go.Proofs.YtnkdaehmdcpafaaDoor
open Go.RowKit Go.Shelf
set_option linter.unusedVariables false
attribute [local go_sem] Oper.semAt_some
section
variable {a : Act} {w : World} {K : Act → World → Prop} {Q : Exit → Act → World → Prop} {o : Oper}
theorem ev_tmp {x : Nat} {v : Value} (h : a.eval (.tmp x) = v) : a.tmps[x]?.getD undef = v := by simpa [Act.eval, Array.getD_eq_getD_getElem?] using h
theorem st_load (x g : Nat) (n : Int) (ho : o.op = .load 3 (.tmp x)) (hx : a.eval (.tmp x) = .pointer (some ⟨g, 0, none⟩)) (hc : w.cell? ⟨g, 0, none⟩ = some (.int .i64 n)) (hK : K (a.put o.dst (.int .i64 n)) w) : Oper.wp Tryd.prog o a w K Q := by
  obtain ⟨dst, op, type, pos, after, guard⟩ := o
  have ho' : op = _ := ho
  subst ho'
  have hx2 := ev_tmp hx
  clear ho hx
  go_simp
  exact hK
theorem st_field (x g f off : Nat) (ho : o.op = .fieldAddr 39 (.tmp x) f) (hx : a.eval (.tmp x) = .pointer (some ⟨g, 0, none⟩)) (hf : (f = 2 ∧ off = 2) ∨ (f = 3 ∧ off = 5)) (hK : K (a.put o.dst (.pointer (some ⟨g, off, none⟩))) w) : Oper.wp Tryd.prog o a w K Q := by
  obtain ⟨dst, op, type, pos, after, guard⟩ := o
  have ho' : op = _ := ho
  subst ho'
  have hx2 := ev_tmp hx
  clear ho hx
  rcases hf with ⟨rfl, rfl⟩ | ⟨rfl, rfl⟩
  · go_simp
    exact hK
  · go_simp
    exact hK
theorem st_loadE (x g i : Nat) {u v z : Value} (ho : o.op = .load 37 (.tmp x)) (hx : a.eval (.tmp x) = .pointer (some ⟨g, i, none⟩)) (c0 : w.cell? ⟨g, i, none⟩ = some u) (c1 : w.cell? ⟨g, i + 1, none⟩ = some v) (c2 : w.cell? ⟨g, i + 2, none⟩ = some z) (hK : K (a.put o.dst (.agg #[u, v, z])) w) : Oper.wp Tryd.prog o a w K Q := by
  obtain ⟨dst, op, type, pos, after, guard⟩ := o
  have ho' : op = _ := ho
  subst ho'
  have hx2 := ev_tmp hx
  clear ho hx
  have hi := Tryd.isAgg37
  have hs := Tryd.sizeOf37
  go_simp
  exact hK
theorem st_count (x : Nat) {v : Value} (r : Int) (ho : o.op = .call { callee := .value (.func 60), args := #[.tmp x], argTypes := #[37] }) (hx : a.eval (.tmp x) = v)
    (hc : Calls Tryd.prog 60 #[v] w fun e w' => e = .returned (.int .i64 r) ∧ Below w.heap.size w w') (hK : ∀ w', Below w.heap.size w w' → K (a.put o.dst (.int .i64 r)) w') : Oper.wp Tryd.prog o a w K Q := by
  obtain ⟨dst, op, type, pos, after, guard⟩ := o
  have ho' : op = _ := ho
  subst ho'
  have hx2 := ev_tmp hx
  have h1 := Tryd.func60
  have HC := Lib.hid hc
  clear hx ho hc
  go_simp
  refine HC.out.mono ?_
  rintro e w' ⟨rfl, hb⟩
  exact hK w' hb
theorem st_add (x y : Nat) (m n r : Int) (ho : o.op = .binOp .add 3 (.tmp x) (.tmp y) 3) (hx : a.eval (.tmp x) = .int .i64 m) (hy : a.eval (.tmp y) = .int .i64 n) (hr : m + n = r) (h0 : -9223372036854775808 ≤ r) (h1 : r ≤ 9223372036854775807) (hK : K (a.put o.dst (.int .i64 r)) w) : Oper.wp Tryd.prog o a w K Q := by
  obtain ⟨dst, op, type, pos, after, guard⟩ := o
  have ho' : op = _ := ho
  subst ho'
  have hx2 := ev_tmp hx
  have hy2 := ev_tmp hy
  subst hr
  have hw : IntKind.i64.wrap (m + n) = m + n := IntWalk.i64_in _ (by omega)
  clear ho hx hy
  go_simp
  exact hK
theorem st_store (x y h : Nat) (u v : Int) (ho : o.op = .store 3 (.tmp x) (.tmp y)) (hx : a.eval (.tmp x) = .pointer (some ⟨h, 0, none⟩)) (hy : a.eval (.tmp y) = .int .i64 v) (hc : w.cell? ⟨h, 0, none⟩ = some (.int .i64 u)) (hf : w.frozen? ⟨h, 0, none⟩ = false) (hK : K (a.put o.dst undef) (w.setCell ⟨h, 0, none⟩ (.int .i64 v))) : Oper.wp Tryd.prog o a w K Q := by
  obtain ⟨dst, op, type, pos, after, guard⟩ := o
  have ho' : op = _ := ho
  subst ho'
  have hx2 := ev_tmp hx
  have hy2 := ev_tmp hy
  clear ho hx hy
  go_simp
  exact hK
end
def depB (ops : Array Oper) (i j : Nat) : Bool := match ops[i]? with
  | some o => o.after.any fun e => Region.binds .any e && e.on == j
  | none => false
theorem depB_spec {ops : Array Oper} {i j : Nat} {o : Oper} (ho : ops[i]? = some o) (h : depB ops i j = true) : ∃ e ∈ o.after.toList, Region.binds .any e = true ∧ e.on = j := by
  unfold depB at h
  rw [ho] at h
  obtain ⟨e, he, h6⟩ := Array.any_eq_true'.1 h
  simp only [Bool.and_eq_true, beq_iff_eq] at h6
  exact ⟨e, by simpa using he, h6.1, h6.2⟩
def nodeOps (p x y : Nat) : List Op := [.load 3 (.tmp x), .fieldAddr 39 (.tmp y) 2, .load 37 (.tmp (p + 1)), .call { callee := .value (.func 60), args := #[.tmp (p + 2)], argTypes := #[37] }, .fieldAddr 39 (.tmp y) 3, .load 37 (.tmp (p + 4)),
  .call { callee := .value (.func 60), args := #[.tmp (p + 5)], argTypes := #[37] }, .binOp .add 3 (.tmp (p + 3)) (.tmp (p + 6)) 3, .binOp .add 3 (.tmp p) (.tmp (p + 7)) 3, .store 3 (.tmp x) (.tmp (p + 8))]
/-- The region that adds what a statement's two expressions count. -/
theorem nodes_region {l n id : Nat} (ops : Array Oper) (p x y : Nat) (hx : x < p) (hy : y < p) (hok : okDet p 9 ops = true) (hops : ops.toList.map (·.op) = nodeOps p x y) (hdeps : ([(2, 1), (3, 2), (5, 4), (6, 5), (7, 3), (7, 6), (8, 0), (8, 7)].all fun q => depB ops q.1 q.2) = true)
    (W : World) (T : Array Value) (hT : p + 9 ≤ T.size) (g h : Nat) (u ca cb : Int) (ua va ub vb : Value) (wa wb : Value)
    (t3 : T.getD x undef = .pointer (some ⟨h, 0, none⟩)) (t5 : T.getD y undef = .pointer (some ⟨g, 0, none⟩))
    (hu : 0 ≤ u) (hca : 0 ≤ ca) (hcb : 0 ≤ cb) (hs : u + (ca + cb) ≤ 9223372036854775807)
    (c0 : W.cell? ⟨h, 0, none⟩ = some (.int .i64 u)) (f0 : W.frozen? ⟨h, 0, none⟩ = false) (hh : h < W.heap.size) (hg : g < W.heap.size)
    (c2 : W.cell? ⟨g, 2, none⟩ = some ua) (c3 : W.cell? ⟨g, 3, none⟩ = some va) (c4 : W.cell? ⟨g, 4, none⟩ = some wa)
    (c5 : W.cell? ⟨g, 5, none⟩ = some ub) (c6 : W.cell? ⟨g, 6, none⟩ = some vb) (c7 : W.cell? ⟨g, 7, none⟩ = some wb)
    (ha : ∀ W', Below W.heap.size W W' → Calls Tryd.prog 60 #[.agg #[ua, va, wa]] W' fun e w' => e = .returned (.int .i64 ca) ∧ Below W'.heap.size W' w')
    (hb : ∀ W', Below W.heap.size W W' → Calls Tryd.prog 60 #[.agg #[ub, vb, wb]] W' fun e w' => e = .returned (.int .i64 cb) ∧ Below W'.heap.size W' w')
    {Q : Exit → Act → World → Prop}
    (hQ : ∀ a W', Below W.heap.size W W' → Q .normal a (W'.setCell ⟨h, 0, none⟩ (.int .i64 (u + (ca + cb))))) :
    (Code.region id ops true).wpIn (Fence.wide.inRound l) n Tryd.prog Q ⟨T, []⟩ W := by
  have hop : ∀ (i : Nat) (o : Oper), ops[i]? = some o → (nodeOps p x y)[i]? = some o.op := fun i o ho => by
    rw [← hops, List.getElem?_map, Array.getElem?_toList, ho]
    rfl
  simp only [List.all_cons, List.all_nil, Bool.and_true, Bool.and_eq_true] at hdeps
  obtain ⟨d21, d32, d54, d65, d73, d76, d80, d87⟩ := hdeps
  obtain ⟨vs, hvs⟩ : ∃ vs : List Value, vs = [.int .i64 u, .pointer (some ⟨g, 2, none⟩), .agg #[ua, va, wa], .int .i64 ca, .pointer (some ⟨g, 5, none⟩), .agg #[ub, vb, wb], .int .i64 cb, .int .i64 (ca + cb), .int .i64 (u + (ca + cb))] := ⟨_, rfl⟩
  have hvl : vs.length = 9 := by rw [hvs]; rfl
  refine wpIn_region_det vs W T p (by omega) (by kernel_rfl) (by rw [hvl]; exact hok) ?_ ?_
  · intro i o ho hi a w hpre hdep hbl K hK
    have hoo := hop i o ho
    rw [hvl] at hi
    have hp3 := hpre x hx
    have hp5 := hpre y hy
    rw [t3] at hp3
    rw [t5] at hp5
    have dep : ∀ j v, depB ops i j = true → vs.getD j undef = v → a.eval (.tmp (p + j)) = v := fun j v hd hv => by
      obtain ⟨e, he, hbn, rfl⟩ := depB_spec ho hd
      rw [hdep e he hbn, hv]
    have hck : ∀ q : Addr, q.block < W.heap.size → w.cell? q = W.cell? q := fun q hq => hbl.cell hq
    obtain rfl | rfl | rfl | rfl | rfl | rfl | rfl | rfl | rfl : i = 0 ∨ i = 1 ∨ i = 2 ∨ i = 3 ∨ i = 4 ∨ i = 5 ∨ i = 6 ∨ i = 7 ∨ i = 8 := by omega
    · have e := (Option.some.inj hoo).symm
      refine wpIn_of_wp (fun c hc => by rw [hc] at e; cases e) (st_load x h u e hp3 ((hck ⟨h, 0, none⟩ hh).trans c0) ?_)
      have := hK w (Below.refl _ _)
      rwa [hvs] at this
    · have e := (Option.some.inj hoo).symm
      refine wpIn_of_wp (fun c hc => by rw [hc] at e; cases e) (st_field y g 2 2 e hp5 (.inl ⟨rfl, rfl⟩) ?_)
      have := hK w (Below.refl _ _)
      rwa [hvs] at this
    · have e := (Option.some.inj hoo).symm
      refine wpIn_of_wp (fun c hc => by rw [hc] at e; cases e) (st_loadE (p + 1) g 2 e (dep 1 _ d21 (by rw [hvs]; rfl)) ((hck ⟨g, 2, none⟩ hg).trans c2) ((hck ⟨g, 3, none⟩ hg).trans c3) ((hck ⟨g, 4, none⟩ hg).trans c4) ?_)
      have := hK w (Below.refl _ _)
      rwa [hvs] at this
    · have e := (Option.some.inj hoo).symm
      refine wpIn_of_wp (fun c hc => by rw [hc] at e; cases e) (st_count (p + 2) ca e (dep 2 _ d32 (by rw [hvs]; rfl)) (ha w hbl) fun w' hb' => ?_)
      have := hK w' hb'
      rwa [hvs] at this
    · have e := (Option.some.inj hoo).symm
      refine wpIn_of_wp (fun c hc => by rw [hc] at e; cases e) (st_field y g 3 5 e hp5 (.inr ⟨rfl, rfl⟩) ?_)
      have := hK w (Below.refl _ _)
      rwa [hvs] at this
    · have e := (Option.some.inj hoo).symm
      refine wpIn_of_wp (fun c hc => by rw [hc] at e; cases e) (st_loadE (p + 4) g 5 e (dep 4 _ d54 (by rw [hvs]; rfl)) ((hck ⟨g, 5, none⟩ hg).trans c5) ((hck ⟨g, 6, none⟩ hg).trans c6) ((hck ⟨g, 7, none⟩ hg).trans c7) ?_)
      have := hK w (Below.refl _ _)
      rwa [hvs] at this
    · have e := (Option.some.inj hoo).symm
      refine wpIn_of_wp (fun c hc => by rw [hc] at e; cases e) (st_count (p + 5) cb e (dep 5 _ d65 (by rw [hvs]; rfl)) (hb w hbl) fun w' hb' => ?_)
      have := hK w' hb'
      rwa [hvs] at this
    · have e := (Option.some.inj hoo).symm
      refine wpIn_of_wp (fun c hc => by rw [hc] at e; cases e) (st_add (p + 3) (p + 6) ca cb _ e (dep 3 _ d73 (by rw [hvs]; rfl)) (dep 6 _ d76 (by rw [hvs]; rfl)) rfl (by omega) (by omega) ?_)
      have := hK w (Below.refl _ _)
      rwa [hvs] at this
    · have e := (Option.some.inj hoo).symm
      refine wpIn_of_wp (fun c hc => by rw [hc] at e; cases e) (st_add p (p + 7) u (ca + cb) _ e (dep 0 _ d80 (by rw [hvs]; rfl)) (dep 7 _ d87 (by rw [hvs]; rfl)) rfl (by omega) (by omega) ?_)
      have := hK w (Below.refl _ _)
      rwa [hvs] at this
  · intro o ho w hbl
    rw [hvl] at ho
    have e := (Option.some.inj (hop 9 o ho)).symm
    have hl : (T.toList.take p).length = p := by simp; omega
    have e1 : (fr (T.toList.take p) vs (T.toList.drop (p + vs.length))).eval (.tmp x) = .pointer (some ⟨h, 0, none⟩) := by
      rw [fr_pre _ _ _ _ (by omega), List.getD_eq_getElem?_getD, List.getElem?_take_of_lt hx, ← t3, Array.getD_eq_getD_getElem?]
      simp
    have e2 : (fr (T.toList.take p) vs (T.toList.drop (p + vs.length))).eval (.tmp (p + 8)) = .int .i64 (u + (ca + cb)) := by
      have := fr_eval (T.toList.take p) vs (T.toList.drop (p + vs.length)) 8 (by omega)
      rw [hl] at this
      rw [this, hvs]
      rfl
    obtain ⟨a, hfa⟩ : ∃ a, a = fr (T.toList.take p) vs (T.toList.drop (p + vs.length)) := ⟨_, rfl⟩
    rw [← hfa] at e1 e2 ⊢
    have cc : w.cell? ⟨h, 0, none⟩ = some (.int .i64 u) := (hbl.cell (p := ⟨h, 0, none⟩) hh).trans c0
    have ff : w.frozen? ⟨h, 0, none⟩ = false := (hbl.frozen (p := ⟨h, 0, none⟩) hh).trans f0
    refine wpIn_of_wp (fun c hc => by rw [hc] at e; cases e) (st_store x (p + 8) h _ _ e e1 e2 cc ff ?_)
    exact hQ _ w hbl
/-- Block g holds the statement r. -/
def BoxS (W : World) (g : Nat) (r : Raw) : Prop := W.heap[g]? = some (.cells #[.int .u8 r.k, .int .i64 r.t, .int .u8 r.ao, .int .i64 r.an, .slice r.aA r.al r.ac, .int .u8 r.bo, .int .i64 r.bn, .slice r.bA r.bl r.bc, .slice r.yA r.yl r.yc, .slice r.eA r.el r.ec] 39 (0, 0))
theorem BoxS.new (W : World) (r : Raw) : BoxS (W.alloc (.cells #[.int .u8 r.k, .int .i64 r.t, .int .u8 r.ao, .int .i64 r.an, .slice r.aA r.al r.ac, .int .u8 r.bo, .int .i64 r.bn, .slice r.bA r.bl r.bc, .slice r.yA r.yl r.yc, .slice r.eA r.el r.ec] 39)) W.heap.size r := World.alloc_heap_new W _
theorem BoxS.lt {W : World} {g : Nat} {r : Raw} (h : BoxS W g r) : g < W.heap.size := (Array.getElem?_eq_some_iff.1 h).1
theorem BoxS.below {W W' : World} {B g : Nat} {r : Raw} (h : BoxS W g r) (hb : Below B W W') (hg : g < B) : BoxS W' g r := (hb.block g hg).trans h
theorem BoxS.set {W : World} {g h i : Nat} {r : Raw} {v : Value} (hs : BoxS W g r) (hne : g ≠ h) : BoxS (W.setCell ⟨h, i, none⟩ v) g r := (Below.heap_setCell W ⟨h, i, none⟩ v g hne).trans hs
theorem BoxS.own {β : Type} {B g : Nat} {r : Raw} : OwnFrom B (fun (_ : β) W => BoxS W g r) := fun _ X Y row hs hg hr => (hg.block g (BoxS.lt hs) (fun e => by
  obtain ⟨_, o, ho, hc⟩ := hr g e.symm
  rw [show X.heap[g]? = _ from hs] at ho
  cases ho
  cases hc)).trans hs
theorem BoxS.ten {W : World} {g : Nat} {r : Raw} (h : BoxS W g r) : Ten W ⟨g, 0, none⟩ r :=
  ⟨cell_row h 0, cell_row h 1, cell_row h 2, cell_row h 3, cell_row h 4, cell_row h 5, cell_row h 6, cell_row h 7, cell_row h 8, cell_row h 9⟩
/-- Of a statement: its two expressions have few parts, if they have an Op. -/
def Few (d : Nat) (s : St) : Prop := (s.a.op = 0 ∨ cnt d s.a ≤ 100000) ∧ (s.b.op = 0 ∨ cnt d s.b ≤ 100000)
theorem Few.le {d : Nat} {s : St} (h : Few d s) : cntE d s.a ≤ 100000 ∧ cntE d s.b ≤ 100000 := by
  obtain ⟨h1, h2⟩ := h
  unfold cntE
  constructor
  · split
    · omega
    · omega
  · split
    · omega
    · omega
theorem nodes_le {w : World} {hi D d : Nat} (l : List (El w hi D (Few d))) : nodesL d (l.map El.key) ≤ l.length * 200000 := by
  induction l with
  | nil => simp [nodesL]
  | cons x r ih =>
    have h1 := x.pr.le
    have h2 : nodesL d ((x :: r).map El.key) = (cntE d x.s.a + cntE d x.s.b) + nodesL d (r.map El.key) := by simp [nodesL, El.key, nodesOf]
    rw [h2, List.length_cons]
    omega
/-- A statement's two expressions, as they lie. -/
theorem SAt.ab {w : World} {lo hi d : Nat} {r : Raw} {s : St} (h : SAt w lo hi d r s) : At w lo hi d r.va s.a ∧ At w lo hi d r.vb s.b := by
  obtain ⟨d, rfl⟩ := h.pos
  obtain ⟨k, t, a, b, y, e⟩ := s
  obtain ⟨_, _, ha, hb, _⟩ := h.open_
  exact ⟨ha.more _ _ (by omega), hb.more _ _ (by omega)⟩
end Go.Proofs.YtnkdaehmdcpafaaDoor
