/-
  SEVERAL TEXTS IN ONE (a claim has sixty files at most): Wt, Od: the head of each stands ahead of it. No condition but theirs.
-/
import Derived.Test.YteigglhhnemngaaGreatDoorQ06
import Derived.Deep.Slices
import Derived.Deep.Fields
import Derived.Carry
import Derived.Test.YteigglhhnemngaaGreatDoorQ03
namespace Go.Proofs.YteigglhhnemngaaGreatDoor
set_option maxRecDepth 100000
open Go.ChangeShapes Go.WideShapes Go.RowKit Go.Deep
set_option linter.unusedVariables false
section
variable {H : Type} {enc : TypeId × Value → H} {w : World} {base : Nat} {spare : Nat → Bool} {held : Bool}
theorem wf_u8W {n : Int} (h : (Lit.int .u8 n).wf = true) : 0 ≤ n ∧ n ≤ 255 := by simpa [Lit.wf, IntKind.min, IntKind.max, IntKind.signed, IntKind.bits] using h
theorem wf_i64W {n : Int} (h : (Lit.int .i64 n).wf = true) : -9223372036854775808 ≤ n ∧ n ≤ 9223372036854775807 := by simpa [Lit.wf, IntKind.min, IntKind.max, IntKind.signed, IntKind.bits] using h
theorem one_ofW {α : Type} {cs : List α} {j n : Nat} (hl : cs.length = n) (h : j < n) : ∃ v, (cs.drop j).take 1 = [v] ∧ cs[j]? = some v := by
  refine ⟨cs[j]'(by omega), ?_, List.getElem?_eq_getElem (by omega)⟩
  rw [List.drop_eq_getElem_cons (by omega)]
  rfl
theorem ev_cellsW : Tryz.prog.cellsOf 50 = 7 := by kernel_rfl
theorem cells_u8W : Tryz.prog.cellsOf 5 = 1 := by kernel_rfl
theorem cells_i64W : Tryz.prog.cellsOf 2 = 1 := by kernel_rfl
theorem cells_intW : Tryz.prog.cellsOf 3 = 1 := by kernel_rfl
theorem open_cellsW {n : Nat} {cs : List Value} {x : DataW H × List MemPlace} (hl : cs.length = 7) (h : DataW.trod enc Tryz.prog w base spare held n 50 cs = some x) : ∃ e : Ev, EvOk e ∧ cs = [.int .u8 e.kd, .int .i64 e.th, .int .i64 e.tx, .int .i64 e.pl, .int .i64 e.v, .int .i64 e.x, .int .u8 e.why] := by
  obtain ⟨xs, m, _, _, _, hxl, hf⟩ := DataW.trod_struct Tryz.underlying50 h
  obtain ⟨v0, t0, g0⟩ := one_ofW hl (show 0 < 7 by omega)
  obtain ⟨v1, t1, g1⟩ := one_ofW hl (show 1 < 7 by omega)
  obtain ⟨v2, t2, g2⟩ := one_ofW hl (show 2 < 7 by omega)
  obtain ⟨v3, t3, g3⟩ := one_ofW hl (show 3 < 7 by omega)
  obtain ⟨v4, t4, g4⟩ := one_ofW hl (show 4 < 7 by omega)
  obtain ⟨v5, t5, g5⟩ := one_ofW hl (show 5 < 7 by omega)
  obtain ⟨v6, t6, g6⟩ := one_ofW hl (show 6 < 7 by omega)
  have hx : xs.length = 7 := hxl
  obtain ⟨y0, _, z0⟩ := one_ofW hx (show 0 < 7 by omega)
  obtain ⟨y1, _, z1⟩ := one_ofW hx (show 1 < 7 by omega)
  obtain ⟨y2, _, z2⟩ := one_ofW hx (show 2 < 7 by omega)
  obtain ⟨y3, _, z3⟩ := one_ofW hx (show 3 < 7 by omega)
  obtain ⟨y4, _, z4⟩ := one_ofW hx (show 4 < 7 by omega)
  obtain ⟨y5, _, z5⟩ := one_ofW hx (show 5 < 7 by omega)
  obtain ⟨y6, _, z6⟩ := one_ofW hx (show 6 < 7 by omega)
  have h0 : DataW.trod enc Tryz.prog w base spare held m 5 ((cs.drop 0).take (Tryz.prog.cellsOf 5)) = xs[0]? := hf 0 _ rfl
  have h1 : DataW.trod enc Tryz.prog w base spare held m 3 ((cs.drop 1).take (Tryz.prog.cellsOf 3)) = xs[1]? := hf 1 _ rfl
  have h2 : DataW.trod enc Tryz.prog w base spare held m 3 ((cs.drop 2).take (Tryz.prog.cellsOf 3)) = xs[2]? := hf 2 _ rfl
  have h3 : DataW.trod enc Tryz.prog w base spare held m 3 ((cs.drop 3).take (Tryz.prog.cellsOf 3)) = xs[3]? := hf 3 _ rfl
  have h4 : DataW.trod enc Tryz.prog w base spare held m 3 ((cs.drop 4).take (Tryz.prog.cellsOf 3)) = xs[4]? := hf 4 _ rfl
  have h5 : DataW.trod enc Tryz.prog w base spare held m 2 ((cs.drop 5).take (Tryz.prog.cellsOf 2)) = xs[5]? := hf 5 _ rfl
  have h6 : DataW.trod enc Tryz.prog w base spare held m 5 ((cs.drop 6).take (Tryz.prog.cellsOf 5)) = xs[6]? := hf 6 _ rfl
  simp only [cells_u8W, cells_i64W, cells_intW, t0, t1, t2, t3, t4, t5, t6, z0, z1, z2, z3, z4, z5, z6] at h0 h1 h2 h3 h4 h5 h6
  obtain ⟨a0, e0, _, w0⟩ := DataW.trod_int Tryz.underlying5 h0
  obtain ⟨a1, e1, _, w1⟩ := DataW.trod_int Tryz.underlying3 h1
  obtain ⟨a2, e2, _, w2⟩ := DataW.trod_int Tryz.underlying3 h2
  obtain ⟨a3, e3, _, w3⟩ := DataW.trod_int Tryz.underlying3 h3
  obtain ⟨a4, e4, _, w4⟩ := DataW.trod_int Tryz.underlying3 h4
  obtain ⟨a5, e5, _, w5⟩ := DataW.trod_int Tryz.underlying2 h5
  obtain ⟨a6, e6, _, w6⟩ := DataW.trod_int Tryz.underlying5 h6
  cases e0; cases e1; cases e2; cases e3; cases e4; cases e5; cases e6
  have b0 := wf_u8W w0
  have b1 := wf_i64W w1
  have b2 := wf_i64W w2
  have b3 := wf_i64W w3
  have b4 := wf_i64W w4
  have b5 := wf_i64W w5
  have b6 := wf_u8W w6
  refine ⟨⟨a0, a1, a2, a3, a4, a5, a6⟩, ⟨b0.1, b0.2, b6.1, b6.2, b1.1, b1.2, b2.1, b2.2, b3.1, b3.2, b4.1, b4.2, b5.1, b5.2⟩, ?_⟩
  apply List.ext_getElem?
  intro j
  match j with
  | 0 => exact g0
  | 1 => exact g1
  | 2 => exact g2
  | 3 => exact g3
  | 4 => exact g4
  | 5 => exact g5
  | 6 => exact g6
  | j + 7 => rw [List.getElem?_eq_none (by omega), List.getElem?_eq_none (by simp)]
end
theorem row_stays {W w : World} {g : Nat} {o : Obj} (h : W.heap[g]? = some o) (b : Below W.heap.size W w) : w.heap[g]? = some o := (b.block g (Array.getElem?_eq_some_iff.1 h).1).trans h
theorem MayK.mono {e : Ev} {V S V' S' : Int} (h : MayK e V S) (h1 : V ≤ V') (h2 : S ≤ S') : MayK e V' S' := by
  unfold MayK at h ⊢
  rcases h with h | h | h | h | h | h | h | h
  · exact .inl h
  · exact .inr (.inl ⟨h.1, h.2.1, ⟨h.2.2.1.1, by omega⟩, h.2.2.2⟩)
  · exact .inr (.inr (.inl ⟨h.1, h.2.1, ⟨h.2.2.1.1, by omega⟩, h.2.2.2⟩))
  · exact .inr (.inr (.inr (.inl ⟨h.1, h.2.1, ⟨h.2.2.1.1, by omega⟩, h.2.2.2⟩)))
  · exact .inr (.inr (.inr (.inr (.inl h))))
  · exact .inr (.inr (.inr (.inr (.inr (.inl h)))))
  · exact .inr (.inr (.inr (.inr (.inr (.inr (.inl ⟨h.1, h.2.1, ⟨h.2.2.1.1, by omega⟩, h.2.2.2⟩))))))
  · exact .inr (.inr (.inr (.inr (.inr (.inr (.inr h))))))
end Go.Proofs.YteigglhhnemngaaGreatDoor
namespace Go.Proofs.YteigglhhnemngaaGreatDoor
set_option maxRecDepth 100000
set_option linter.unusedVariables false
structure Att where
  rv : Int
  wv : Int
  rd : List Int
  lk : List Int
  fd : Nat
  ck : Nat
  st : List Int
  why : Int
  last : Int
  lp : Int
  lv : Int
deriving DecidableEq
def att0 : Att := ⟨0, 0, [], [], 0, 0, [], 0, 0, 0, 0⟩
def putL : List Int → Int → List Int
  | [], n => [n]
  | x :: r, n => if x < n then x :: putL r n else if x = n then x :: r else n :: x :: r
def attF (S : Int) (a : Att) (e : Ev) : Att :=
  if e.kd = 1 then ⟨e.v, 0, [], [], 0, 0, [], 0, 1, e.pl, e.v⟩ else
  if e.kd = 3 then { a with rd := putL a.rd (e.pl % S), last := 3, lp := e.pl, lv := e.v } else
  if e.kd = 4 then { a with lk := a.lk ++ [e.pl], last := 4, lp := e.pl, lv := e.v } else
  if e.kd = 5 then { a with wv := e.v, last := 5, lp := e.pl, lv := e.v } else
  if e.kd = 6 then { a with ck := a.ck + 1, last := 6, lp := e.pl, lv := e.v } else
  if e.kd = 8 then { a with st := a.st ++ [e.pl], last := 8, lp := e.pl, lv := e.v } else
  if e.kd = 9 ∨ e.kd = 11 then { a with fd := a.fd + 1, last := e.kd, lp := e.pl, lv := e.v } else
  if e.kd = 10 then { a with why := e.why, last := 10, lp := e.pl, lv := e.v } else
  { a with last := e.kd, lp := e.pl, lv := e.v }
def overA (a : Att) : Bool :=
  if a.last = 0 ∨ a.last = 13 then true else
  if a.last = 7 ∨ a.last = 10 then decide (a.lk.length = 0) else
  if a.last = 9 ∨ a.last = 11 then decide (a.fd = a.lk.length) else false
def leftA (a : Att) : List Int := if a.wv = a.rv + 1 then [] else a.rd.drop a.ck
def lastL (l : List Int) : Int := (l.getLast?).getD (-1)
def storedA (S : Int) (l : List Int) : List Int := l.foldl (fun o x => putL o (x % S)) []
structure Sh where
  own : Int → Int
  ver : Int → Int
  clk : Int
  bmp : Int → Int
  att : Int → Att
  com : Int → Int
def updF {α : Type} (f : Int → α) (k : Int) (v : α) : Int → α := fun i => if i = k then v else f i
theorem updF_same {α : Type} (f : Int → α) (k : Int) (v : α) : updF f k v k = v := by simp [updF]
theorem updF_other {α : Type} {f : Int → α} {k i : Int} {v : α} (h : i ≠ k) : updF f k v i = f i := by simp [updF, h]
def sh0 : Sh := ⟨fun _ => -1, fun _ => 0, 0, fun _ => 0, fun _ => att0, fun _ => 0⟩
def stepS (S : Int) (q : Sh) (e : Ev) : Sh where
  own := if e.kd = 4 then updF q.own e.pl e.th else if e.kd = 9 ∨ e.kd = 11 then updF q.own e.pl (-1) else q.own
  ver := if e.kd = 2 then updF q.ver e.pl e.v else if e.kd = 9 then updF q.ver e.pl (q.bmp e.th) else q.ver
  clk := if e.kd = 1 ∨ e.kd = 5 then e.v else q.clk
  bmp := if e.kd = 5 then updF q.bmp e.th e.v else q.bmp
  att := updF q.att e.th (attF S (q.att e.th) e)
  com := if (e.kd = 7 ∨ e.kd = 9) ∧ overA (attF S (q.att e.th) e) = true then updF q.com e.th (q.com e.th + 1) else q.com
def readsA (a : Att) : Prop := a.last = 1 ∨ a.last = 3
def checksA (a : Att) : Prop := a.last = 5 ∨ a.last = 6
instance (a : Att) : Decidable (readsA a) := by unfold readsA; infer_instance
instance (a : Att) : Decidable (checksA a) := by unfold checksA; infer_instance
def mayAb (q : Sh) (a : Att) (e : Ev) : Prop :=
  if e.why = 1 then readsA a ∧ 0 ≤ q.own e.pl ∧ q.own e.pl ≠ e.th else
  if e.why = 2 then readsA a ∧ q.own e.pl < 0 ∧ a.rv < q.ver e.pl else
  if e.why = 3 then a.last = 2 ∧ a.lp = e.pl ∧ (0 ≤ q.own e.pl ∨ q.ver e.pl ≠ a.lv) else
  if e.why = 4 then (readsA a ∨ a.last = 4) ∧ lastL a.lk < e.pl ∧ 0 ≤ q.own e.pl ∧ q.own e.pl ≠ e.th else
  if e.why = 5 then checksA a ∧ (leftA a).head? = some e.pl ∧ ((0 ≤ q.own e.pl ∧ q.own e.pl ≠ e.th) ∨ a.rv < q.ver e.pl) else a.last = 4
instance (q : Sh) (a : Att) (e : Ev) : Decidable (mayAb q a e) := by unfold mayAb; infer_instance
def mayQ (S : Int) (q : Sh) (a : Att) (e : Ev) : Prop :=
  if e.kd = 1 then overA a = true ∧ a.why ≠ 6 ∧ e.tx = q.com e.th ∧ q.clk ≤ e.v else overA a = false ∧
  if e.kd = 2 then readsA a ∧ q.own e.pl < 0 ∧ q.ver e.pl ≤ e.v ∧ e.v ≤ a.rv else
  if e.kd = 3 then a.last = 2 ∧ a.lp = e.pl % S ∧ q.own (e.pl % S) < 0 ∧ q.ver (e.pl % S) = a.lv else
  if e.kd = 4 then (readsA a ∨ a.last = 4) ∧ lastL a.lk < e.pl ∧ q.own e.pl < 0 else
  if e.kd = 5 then a.last = 4 ∧ q.clk < e.v else
  if e.kd = 6 then checksA a ∧ (leftA a).head? = some e.pl ∧ ¬ (0 ≤ q.own e.pl ∧ q.own e.pl ≠ e.th) ∧ q.ver e.pl ≤ a.rv else
  if e.kd = 7 then (if e.v = 0 then readsA a else checksA a ∧ leftA a = [] ∧ e.v = a.wv) else
  if e.kd = 8 then (a.last = 7 ∨ a.last = 8) ∧ lastL a.st < e.pl ∧ q.own (e.pl % S) = e.th else
  if e.kd = 9 then ((a.last = 8 ∧ (storedA S a.st).length = a.lk.length) ∨ a.last = 9) ∧ a.lk[a.fd]? = some e.pl else
  if e.kd = 11 then (a.last = 10 ∨ a.last = 11) ∧ a.lk[a.fd]? = some e.pl else
  if e.kd = 12 then readsA a else
  if e.kd = 13 then a.last = 12 ∧ ∃ s ∈ a.rd, q.own s < 0 ∧ a.rv < q.ver s else mayAb q a e
instance (S : Int) (q : Sh) (a : Att) (e : Ev) : Decidable (mayQ S q a e) := by unfold mayQ; infer_instance
def mayS (T V S : Int) (q : Sh) (e : Ev) : Bool := mayB e T V S && decide (mayQ S q (q.att e.th) e)
def size13 (T V S : Int) : Bool := (decide (0 ≤ T) && decide (T ≤ 6)) && (decide (1 ≤ V) && decide (V ≤ 32)) && (decide (1 ≤ S) && decide (S ≤ V))
def scanS (T V S : Int) : Sh → Nat → List Ev → Nat × Int
  | _, i, [] => (i, 0)
  | q, i, e :: r => if mayS T V S q e = true then scanS T V S (stepS S q e) (i + 1) r else (i, 4)
def checkF (T V S : Int) (l : List Ev) : Nat × Int := if size13 T V S = false then (0, 1) else if 1048576 < l.length then (0, 40) else scanS T V S sh0 0 l
def behind (S : Int) (l : List Ev) : Sh := l.foldl (stepS S) sh0
def Fine (T V S : Int) (l : List Ev) : Prop := ∀ i e, l[i]? = some e → mayS T V S (behind S (l.take i)) e = true
theorem behind_next {S : Int} {l : List Ev} {i : Nat} {e : Ev} (h : l[i]? = some e) : behind S (l.take (i + 1)) = stepS S (behind S (l.take i)) e := by
  unfold behind
  rw [List.take_add_one, h, List.foldl_append]
  rfl
theorem scan_spec (T V S : Int) (l : List Ev) (i : Nat) (hi : i ≤ l.length) (q : Sh) (hq : q = behind S (l.take i)) (hp : Fine T V S (l.take i)) :
    (scanS T V S q i (l.drop i) = (l.length, 0) ∧ Fine T V S l) ∨ ∃ j e, l[j]? = some e ∧ mayS T V S (behind S (l.take j)) e = false ∧ Fine T V S (l.take j) ∧ scanS T V S q i (l.drop i) = (j, 4) := by
  generalize hn : l.length - i = n
  induction n generalizing i q with
  | zero =>
    have : i = l.length := by omega
    subst this
    rw [List.drop_length]
    rw [List.take_length] at hp
    exact .inl ⟨rfl, hp⟩
  | succ n ih =>
    have hlt : i < l.length := by omega
    obtain ⟨e, he⟩ : ∃ e, l[i]? = some e := ⟨_, List.getElem?_eq_getElem hlt⟩
    have hd : l.drop i = e :: l.drop (i + 1) := by
      rw [List.drop_eq_getElem_cons hlt]
      rw [List.getElem?_eq_getElem hlt] at he
      rw [Option.some.inj he]
    rw [hd]
    unfold scanS
    by_cases hm : mayS T V S q e = true
    · rw [if_pos hm]
      refine ih (i + 1) (by omega) _ ?_ ?_ (by omega)
      · rw [behind_next he, hq]
      · intro j x hx
        rw [List.getElem?_take] at hx
        split at hx
        · by_cases hj : j < i
          · have := hp j x (by rw [List.getElem?_take, if_pos hj]; exact hx)
            rwa [List.take_take, Nat.min_eq_left (by omega)] at this ⊢
          · obtain rfl : j = i := by omega
            rw [he] at hx
            cases hx
            rw [List.take_take, Nat.min_eq_left (by omega), ← hq]
            exact hm
        · cases hx
    · rw [if_neg hm]
      exact .inr ⟨i, e, he, by rw [← hq]; simpa using hm, hp, rfl⟩
theorem check_cases (T V S : Int) (l : List Ev) (h1 : size13 T V S = true) (h2 : l.length ≤ 1048576) :
    (checkF T V S l = (l.length, 0) ∧ Fine T V S l) ∨ ∃ j e, l[j]? = some e ∧ mayS T V S (behind S (l.take j)) e = false ∧ Fine T V S (l.take j) ∧ checkF T V S l = (j, 4) := by
  unfold checkF
  rw [if_neg (by rw [h1]; decide), if_neg (by omega)]
  exact scan_spec T V S l 0 (by omega) sh0 rfl (fun i e h => by simp at h)
theorem fine_iff {T V S : Int} {l : List Ev} : checkF T V S l = (l.length, 0) ↔ size13 T V S = true ∧ l.length ≤ 1048576 ∧ Fine T V S l := by
  constructor
  · intro h
    by_cases h1 : size13 T V S = true
    · by_cases h2 : l.length ≤ 1048576
      · rcases check_cases T V S l h1 h2 with ⟨_, h3⟩ | ⟨j, e, _, _, _, h4⟩
        · exact ⟨h1, h2, h3⟩
        · rw [h4] at h
          injection h with _ h
          exact absurd h (by decide)
      · unfold checkF at h
        rw [if_neg (by rw [h1]; decide), if_pos (by omega)] at h
        injection h with _ h
        exact absurd h (by decide)
    · unfold checkF at h
      rw [if_pos (by simpa using h1)] at h
      injection h with _ h
      exact absurd h (by decide)
  · rintro ⟨h1, h2, h3⟩
    rcases check_cases T V S l h1 h2 with ⟨h, _⟩ | ⟨j, e, he, hm, _, _⟩
    · exact h
    · have := h3 j e he
      rw [this] at hm
      cases hm
theorem Fine.take {T V S : Int} {l : List Ev} (h : Fine T V S l) (n : Nat) : Fine T V S (l.take n) := fun i e he => by
  rw [List.getElem?_take] at he
  split at he
  · have := h i e he
    rwa [List.take_take, Nat.min_eq_left (by omega)]
  · cases he
end Go.Proofs.YteigglhhnemngaaGreatDoor
namespace Go.Proofs.YteigglhhnemngaaGreatDoor
set_option maxRecDepth 100000
set_option linter.unusedVariables false
structure TInv (S : Int) (own ver : Int → Int) (clk bm th : Int) (a : Att) : Prop where
  inc : a.lk.Pairwise (· < ·)
  sinc : a.st.Pairwise (· < ·)
  mine : ∀ j s, a.fd ≤ j → a.lk[j]? = some s → own s = th
  held : ∀ s, own s = th → ∃ j, a.fd ≤ j ∧ a.lk[j]? = some s
  fdl : a.fd ≤ a.lk.length
  cov : ∀ x ∈ a.st, x % S ∈ a.lk
  lpos : ∀ s ∈ a.lk, 0 ≤ s ∧ s < S
  spos : ∀ x ∈ a.st, 0 ≤ x
  rg : 0 ≤ a.last ∧ a.last ≤ 13
  w0 : a.last = 0 ∨ a.last = 1 ∨ a.last = 2 ∨ a.last = 3 ∨ a.last = 12 ∨ a.last = 13 → a.lk = [] ∧ a.st = []
  w4 : a.last = 4 ∨ a.last = 5 ∨ a.last = 6 → a.lk ≠ [] ∧ a.fd = 0 ∧ a.st = []
  w7 : a.last = 7 → a.fd = 0 ∧ a.st = []
  w8 : a.last = 8 → a.fd = 0 ∧ a.lk ≠ [] ∧ a.st ≠ []
  w9 : a.last = 9 → a.lk ≠ [] ∧ ∀ s ∈ a.lk, ∃ x ∈ a.st, x % S = s
  w10 : a.last = 10 → a.fd = 0 ∧ a.st = []
  w11 : a.last = 11 → a.lk ≠ [] ∧ a.st = []
  bmw : a.last = 5 ∨ a.last = 6 ∨ ((a.last = 7 ∨ a.last = 8 ∨ a.last = 9) ∧ a.lk ≠ []) → a.wv = bm ∧ a.wv ≤ clk ∧ a.rv < a.wv ∧ ∀ j s, a.fd ≤ j → a.lk[j]? = some s → ver s < a.wv
  rvc : a.rv ≤ clk
structure Inv (S T : Int) (q : Sh) : Prop where
  t : ∀ th, 0 ≤ th → TInv S q.own q.ver q.clk (q.bmp th) th (q.att th)
  own : ∀ s, q.own s = -1 ∨ (0 ≤ q.own s ∧ q.own s < T)
  ver : ∀ s, 0 ≤ q.ver s ∧ q.ver s ≤ q.clk
theorem TInv.other {S : Int} {own own' ver ver' : Int → Int} {clk clk' bm th : Int} {a : Att} (h : TInv S own ver clk bm th a) (h1 : ∀ s, own' s = th ↔ own s = th) (h2 : ∀ s, own s = th → ver' s = ver s) (h3 : clk ≤ clk') : TInv S own' ver' clk' bm th a where
  inc := h.inc
  sinc := h.sinc
  mine := fun j s hj hs => (h1 s).2 (h.mine j s hj hs)
  held := fun s hs => h.held s ((h1 s).1 hs)
  fdl := h.fdl
  cov := h.cov
  lpos := h.lpos
  spos := h.spos
  rg := h.rg
  w0 := h.w0
  w4 := h.w4
  w7 := h.w7
  w8 := h.w8
  w9 := h.w9
  w10 := h.w10
  w11 := h.w11
  bmw := fun hl => by
    obtain ⟨b1, b2, b4, b3⟩ := h.bmw hl
    exact ⟨b1, by omega, b4, fun j s hj hs => by rw [h2 s (h.mine j s hj hs)]; exact b3 j s hj hs⟩
  rvc := by have := h.rvc; omega
theorem init_inv (S T : Int) : Inv S T sh0 where
  t := fun th hth => {
    inc := by simp [sh0, att0]
    sinc := by simp [sh0, att0]
    mine := fun j s _ hs => by simp [sh0, att0] at hs
    held := fun s hs => by simp only [sh0] at hs; omega
    fdl := by simp [sh0, att0]
    cov := fun x hx => by simp [sh0, att0] at hx
    lpos := fun x hx => by simp [sh0, att0] at hx
    spos := fun x hx => by simp [sh0, att0] at hx
    rg := by simp [sh0, att0]
    w0 := fun _ => ⟨rfl, rfl⟩
    w4 := fun h => by simp [sh0, att0] at h
    w7 := fun h => by simp [sh0, att0] at h
    w8 := fun h => by simp [sh0, att0] at h
    w9 := fun h => by simp [sh0, att0] at h
    w10 := fun h => by simp [sh0, att0] at h
    w11 := fun h => by simp [sh0, att0] at h
    bmw := fun h => by simp [sh0, att0] at h
    rvc := by simp [sh0, att0] }
  own := fun s => .inl rfl
  ver := fun s => by simp [sh0]
theorem over_none {S : Int} {own ver : Int → Int} {clk bm th : Int} {a : Att} (h : TInv S own ver clk bm th a) (ho : overA a = true) : ∀ s, own s ≠ th := by
  intro s hs
  obtain ⟨j, hj, hs2⟩ := h.held s hs
  have hl : j < a.lk.length := (List.getElem?_eq_some_iff.1 hs2).1
  unfold overA at ho
  split at ho
  · have := (h.w0 (by omega)).1
    rw [this] at hl
    simp at hl
  · split at ho
    · simp at ho
      rw [ho] at hl
      simp at hl
    · split at ho
      · simp at ho
        omega
      · cases ho
theorem last_lt {l : List Int} {n : Int} (h : l.Pairwise (· < ·)) (hn : lastL l < n) : (l ++ [n]).Pairwise (· < ·) := by
  rw [List.pairwise_append]
  refine ⟨h, by simp, fun x hx y hy => ?_⟩
  rw [List.mem_singleton] at hy
  subst hy
  have : ∀ (l : List Int), l.Pairwise (· < ·) → ∀ x ∈ l, x ≤ lastL l := by
    intro l
    induction l with
    | nil => intro _ x hx; cases hx
    | cons a r ih =>
      intro hp x hx
      rw [List.pairwise_cons] at hp
      cases r with
      | nil =>
        rw [List.mem_singleton] at hx
        subst hx
        simp [lastL]
      | cons b t =>
        have e : lastL (a :: b :: t) = lastL (b :: t) := by simp [lastL]
        rw [e]
        rcases List.mem_cons.1 hx with rfl | hx
        · have h1 := ih hp.2 b (by simp)
          have h2 := hp.1 b (by simp)
          omega
        · exact ih hp.2 x hx
  have := this l h x hx
  omega
theorem put_mem (l : List Int) (n x : Int) : x ∈ putL l n ↔ x ∈ l ∨ x = n := by
  induction l with
  | nil => simp [putL]
  | cons a r ih =>
    unfold putL
    split
    · simp [ih]
      constructor
      · rintro (h | h | h)
        · exact .inl (.inl h)
        · exact .inl (.inr h)
        · exact .inr h
      · rintro ((h | h) | h)
        · exact .inl h
        · exact .inr (.inl h)
        · exact .inr (.inr h)
    · split
      · rename_i h
        subst h
        simp
        exact fun h => .inl h
      · simp
        constructor
        · rintro (h | h)
          · exact .inr h
          · exact .inl h
        · rintro (h | h)
          · exact .inr h
          · exact .inl h
theorem put_inc {l : List Int} (h : l.Pairwise (· < ·)) (n : Int) : (putL l n).Pairwise (· < ·) := by
  induction l with
  | nil => simp [putL]
  | cons a r ih =>
    rw [List.pairwise_cons] at h
    unfold putL
    split
    · rw [List.pairwise_cons]
      refine ⟨fun x hx => ?_, ih h.2⟩
      rcases (put_mem _ _ _).1 hx with hx | hx
      · exact h.1 x hx
      · omega
    · split
      · rw [List.pairwise_cons]
        exact h
      · rw [List.pairwise_cons, List.pairwise_cons]
        refine ⟨fun x hx => ?_, h⟩
        rcases List.mem_cons.1 hx with rfl | hx
        · omega
        · have := h.1 x hx
          omega
theorem stored_aux (S : Int) (l o : List Int) : (o.Pairwise (· < ·) → (l.foldl (fun o x => putL o (x % S)) o).Pairwise (· < ·)) ∧ ∀ y, y ∈ l.foldl (fun o x => putL o (x % S)) o ↔ y ∈ o ∨ ∃ x ∈ l, x % S = y := by
  induction l generalizing o with
  | nil => simp
  | cons a r ih =>
    obtain ⟨i1, i2⟩ := ih (putL o (a % S))
    refine ⟨fun h => i1 (put_inc h _), fun y => ?_⟩
    rw [List.foldl_cons, i2, put_mem]
    constructor
    · rintro ((h | h) | ⟨x, h1, h2⟩)
      · exact .inl h
      · exact .inr ⟨a, by simp, h.symm⟩
      · exact .inr ⟨x, by simp [h1], h2⟩
    · rintro (h | ⟨x, h1, h2⟩)
      · exact .inl (.inl h)
      · rcases List.mem_cons.1 h1 with rfl | h1
        · exact .inl (.inr h2.symm)
        · exact .inr ⟨x, h1, h2⟩
theorem sub_drop {a b : Int} {A B : List Int} (hA : (a :: A).Pairwise (· < ·)) (hB : (b :: B).Pairwise (· < ·)) (h : ∀ x ∈ a :: A, x ∈ b :: B) : (a = b ∧ ∀ x ∈ A, x ∈ B) ∨ (∀ x ∈ a :: A, x ∈ B) := by
  rw [List.pairwise_cons] at hA hB
  by_cases hab : a = b
  · refine .inl ⟨hab, fun x hx => ?_⟩
    rcases List.mem_cons.1 (h x (by simp [hx])) with h1 | h1
    · have := hA.1 x hx
      omega
    · exact h1
  · refine .inr fun x hx => ?_
    have ha : a ∈ B := by
      rcases List.mem_cons.1 (h a (by simp)) with h1 | h1
      · exact absurd h1 hab
      · exact h1
    have hb := hB.1 a ha
    rcases List.mem_cons.1 (h x hx) with h1 | h1
    · rcases List.mem_cons.1 hx with h2 | h2
      · omega
      · have := hA.1 x h2
        omega
    · exact h1
theorem sub_len {A B : List Int} (hA : A.Pairwise (· < ·)) (hB : B.Pairwise (· < ·)) (h : ∀ x ∈ A, x ∈ B) : A.length ≤ B.length := by
  induction B generalizing A with
  | nil =>
    cases A with
    | nil => simp
    | cons a r => exact absurd (h a (by simp)) (by simp)
  | cons b B ih =>
    cases A with
    | nil => simp
    | cons a r =>
      have hB2 := (List.pairwise_cons.1 hB).2
      rcases sub_drop hA hB h with ⟨_, h1⟩ | h1
      · have := ih (List.pairwise_cons.1 hA).2 hB2 h1
        simp
        omega
      · have := ih hA hB2 h1
        simp at this ⊢
        omega
theorem sub_eq {A B : List Int} (hA : A.Pairwise (· < ·)) (hB : B.Pairwise (· < ·)) (h : ∀ x ∈ A, x ∈ B) (hl : B.length ≤ A.length) : ∀ y ∈ B, y ∈ A := by
  induction B generalizing A with
  | nil => intro y hy; cases hy
  | cons b B ih =>
    cases A with
    | nil => simp at hl
    | cons a r =>
      have hB2 := (List.pairwise_cons.1 hB).2
      rcases sub_drop hA hB h with ⟨rfl, h1⟩ | h1
      · intro y hy
        rcases List.mem_cons.1 hy with rfl | hy
        · simp
        · exact List.mem_cons_of_mem _ (ih (List.pairwise_cons.1 hA).2 hB2 h1 (by simp at hl; omega) y hy)
      · have := sub_len hA hB2 h1
        simp at this hl
        omega
theorem stored_all {S : Int} {st lk : List Int} (hl : lk.Pairwise (· < ·)) (hc : ∀ x ∈ st, x % S ∈ lk) (hn : (storedA S st).length = lk.length) : ∀ s ∈ lk, ∃ x ∈ st, x % S = s := by
  obtain ⟨h1, h2⟩ := stored_aux S st []
  have hsub : ∀ y ∈ storedA S st, y ∈ lk := fun y hy => by
    rcases (h2 y).1 hy with h | ⟨x, hx, rfl⟩
    · cases h
    · exact hc x hx
  intro s hs
  rcases (h2 s).1 (sub_eq (h1 (by simp)) hl hsub (by unfold storedA at hn; omega) s hs) with h | h
  · cases h
  · exact h
end Go.Proofs.YteigglhhnemngaaGreatDoor
namespace Go.Proofs.YteigglhhnemngaaGreatDoor
set_option maxRecDepth 100000
set_option linter.unusedVariables false
theorem inc_at {l : List Int} (h : l.Pairwise (· < ·)) {i j : Nat} {x : Int} (hi : l[i]? = some x) (hj : l[j]? = some x) : i = j := by
  obtain ⟨i1, i2⟩ := List.getElem?_eq_some_iff.1 hi
  obtain ⟨j1, j2⟩ := List.getElem?_eq_some_iff.1 hj
  have hp := List.pairwise_iff_getElem.1 h
  rcases Nat.lt_trichotomy i j with h1 | h1 | h1
  · have := hp i j i1 j1 h1
    omega
  · exact h1
  · have := hp j i j1 i1 h1
    omega
section
variable {S : Int} {own ver : Int → Int} {clk bm th : Int} {a : Att}
theorem TInv.fd0 (h : TInv S own ver clk bm th a) (hl : a.lk = []) : a.fd = 0 := by
  have := h.fdl
  rw [hl] at this
  simpa using this
theorem TInv.begin' (h : TInv S own ver clk bm th a) (ho : overA a = true) (v p : Int) : TInv S own ver v bm th ⟨v, 0, [], [], 0, 0, [], 0, 1, p, v⟩ where
  inc := by simp
  sinc := by simp
  mine := fun j s _ hs => by simp at hs
  held := fun s hs => absurd hs (over_none h ho s)
  fdl := by simp
  cov := fun x hx => by cases hx
  lpos := fun x hx => by cases hx
  spos := fun x hx => by cases hx
  rg := by simp
  w0 := fun _ => ⟨rfl, rfl⟩
  w4 := fun h => by simp at h
  w7 := fun h => by simp at h
  w8 := fun h => by simp at h
  w9 := fun h => by simp at h
  w10 := fun h => by simp at h
  w11 := fun h => by simp at h
  bmw := fun h => by simp at h
  rvc := by simp
theorem TInv.none (h : TInv S own ver clk bm th a) (hl : a.lk = []) (hs : a.st = []) {ver' : Int → Int} (l : Int) (hl2 : l = 2 ∨ l = 3 ∨ l = 7 ∨ l = 10 ∨ l = 12 ∨ l = 13) (rd : List Int) (wy p v : Int) : TInv S own ver' clk bm th { a with rd := rd, why := wy, last := l, lp := p, lv := v } where
  inc := h.inc
  sinc := h.sinc
  mine := h.mine
  held := h.held
  fdl := h.fdl
  cov := h.cov
  lpos := h.lpos
  spos := h.spos
  rg := by simp only; omega
  w0 := fun _ => ⟨hl, hs⟩
  w4 := fun h => by simp only at h; omega
  w7 := fun _ => ⟨h.fd0 hl, hs⟩
  w8 := fun h => by simp only at h; omega
  w9 := fun h => by simp only at h; omega
  w10 := fun _ => ⟨h.fd0 hl, hs⟩
  w11 := fun h => by simp only at h; omega
  bmw := fun h => by
    simp only at h
    rcases h with h | h | h
    · omega
    · omega
    · exact absurd hl h.2
  rvc := h.rvc
theorem TInv.abort' (h : TInv S own ver clk bm th a) (hl : a.last = 4 ∨ a.last = 5 ∨ a.last = 6) (wy p v : Int) : TInv S own ver clk bm th { a with why := wy, last := 10, lp := p, lv := v } where
  inc := h.inc
  sinc := h.sinc
  mine := h.mine
  held := h.held
  fdl := h.fdl
  cov := h.cov
  lpos := h.lpos
  spos := h.spos
  rg := by simp
  w0 := fun h => by simp at h
  w4 := fun h => by simp at h
  w7 := fun h => by simp at h
  w8 := fun h => by simp at h
  w9 := fun h => by simp at h
  w10 := fun _ => ⟨(h.w4 hl).2.1, (h.w4 hl).2.2⟩
  w11 := fun h => by simp at h
  bmw := fun h => by simp at h
  rvc := h.rvc
theorem TInv.lock' (h : TInv S own ver clk bm th a) (hth : 0 ≤ th) (hl : a.last = 1 ∨ a.last = 3 ∨ a.last = 4) {p : Int} (hp : lastL a.lk < p) (ho : own p < 0) (hp0 : 0 ≤ p) (hpS : p < S) (v : Int) : TInv S (updF own p th) ver clk bm th { a with lk := a.lk ++ [p], last := 4, lp := p, lv := v } := by
  have hfs : a.fd = 0 ∧ a.st = [] := by
    by_cases h4 : a.last = 4
    · have := h.w4 (.inl h4)
      exact ⟨this.2.1, this.2.2⟩
    · have := h.w0 (by omega)
      exact ⟨h.fd0 this.1, this.2⟩
  refine { inc := last_lt h.inc hp, sinc := h.sinc, mine := fun j s hj hs => ?_, held := fun s hs => ?_, fdl := ?_, cov := fun x hx => ?_, lpos := fun s hs => ?_, spos := h.spos, rg := by simp, w0 := fun h => by simp at h, w4 := fun _ => ⟨by simp, hfs.1, hfs.2⟩, w7 := fun h => by simp at h, w8 := fun h => by simp at h, w9 := fun h => by simp at h, w10 := fun h => by simp at h, w11 := fun h => by simp at h, bmw := fun h => by simp at h, rvc := h.rvc }
  · simp only at hj hs
    rw [List.getElem?_append] at hs
    split at hs
    · have h1 := h.mine j s hj hs
      have : s ≠ p := by rintro rfl; omega
      rw [updF_other this]
      exact h1
    · rw [List.getElem?_singleton] at hs
      split at hs
      · cases hs
        exact updF_same _ _ _
      · cases hs
  · by_cases hsp : s = p
    · subst hsp
      refine ⟨a.lk.length, by simp only; omega, ?_⟩
      simp only
      rw [List.getElem?_append_right (Nat.le_refl _)]
      simp
    · rw [updF_other hsp] at hs
      obtain ⟨j, h1, h2⟩ := h.held s hs
      refine ⟨j, h1, ?_⟩
      simp only
      rw [List.getElem?_append_left (List.getElem?_eq_some_iff.1 h2).1]
      exact h2
  · have := h.fdl
    simp
    omega
  · simp only at hx ⊢
    exact List.mem_append_left _ (h.cov x hx)
  · simp only at hs
    rcases List.mem_append.1 hs with hs | hs
    · exact h.lpos s hs
    · rw [List.mem_singleton] at hs
      omega
theorem TInv.bump' (h : TInv S own ver clk bm th a) (hl : a.last = 4) {v : Int} (hv : clk < v) (hver : ∀ s, ver s ≤ clk) (p : Int) : TInv S own ver v v th { a with wv := v, last := 5, lp := p, lv := v } where
  inc := h.inc
  sinc := h.sinc
  mine := h.mine
  held := h.held
  fdl := h.fdl
  cov := h.cov
  lpos := h.lpos
  spos := h.spos
  rg := by simp
  w0 := fun h => by simp at h
  w4 := fun _ => h.w4 (.inl hl)
  w7 := fun h => by simp at h
  w8 := fun h => by simp at h
  w9 := fun h => by simp at h
  w10 := fun h => by simp at h
  w11 := fun h => by simp at h
  bmw := fun _ => ⟨rfl, by simp, by have := h.rvc; simp only; omega, fun j s _ _ => by have := hver s; simp only; omega⟩
  rvc := by have := h.rvc; simp only; omega
theorem TInv.check' (h : TInv S own ver clk bm th a) (hl : a.last = 5 ∨ a.last = 6) (p v : Int) : TInv S own ver clk bm th { a with ck := a.ck + 1, last := 6, lp := p, lv := v } where
  inc := h.inc
  sinc := h.sinc
  mine := h.mine
  held := h.held
  fdl := h.fdl
  cov := h.cov
  lpos := h.lpos
  spos := h.spos
  rg := by simp
  w0 := fun h => by simp at h
  w4 := fun _ => h.w4 (by omega)
  w7 := fun h => by simp at h
  w8 := fun h => by simp at h
  w9 := fun h => by simp at h
  w10 := fun h => by simp at h
  w11 := fun h => by simp at h
  bmw := fun _ => h.bmw (by omega)
  rvc := h.rvc
theorem TInv.commit' (h : TInv S own ver clk bm th a) (hl : a.last = 5 ∨ a.last = 6) (p v : Int) : TInv S own ver clk bm th { a with last := 7, lp := p, lv := v } where
  inc := h.inc
  sinc := h.sinc
  mine := h.mine
  held := h.held
  fdl := h.fdl
  cov := h.cov
  lpos := h.lpos
  spos := h.spos
  rg := by simp
  w0 := fun h => by simp at h
  w4 := fun h => by simp at h
  w7 := fun _ => ⟨(h.w4 (by omega)).2.1, (h.w4 (by omega)).2.2⟩
  w8 := fun h => by simp at h
  w9 := fun h => by simp at h
  w10 := fun h => by simp at h
  w11 := fun h => by simp at h
  bmw := fun _ => h.bmw (by omega)
  rvc := h.rvc
theorem TInv.store' (h : TInv S own ver clk bm th a) (hl : a.last = 7 ∨ a.last = 8) {p : Int} (hp : lastL a.st < p) (ho : own (p % S) = th) (hp0 : 0 ≤ p) (v : Int) : TInv S own ver clk bm th { a with st := a.st ++ [p], last := 8, lp := p, lv := v } := by
  obtain ⟨j0, j1, j2⟩ := h.held _ ho
  have hm := List.mem_of_getElem? j2
  have hne : a.lk ≠ [] := by
    intro he
    rw [he] at hm
    cases hm
  refine { inc := h.inc, sinc := last_lt h.sinc hp, mine := h.mine, held := h.held, fdl := h.fdl, cov := fun x hx => ?_, lpos := h.lpos, spos := fun x hx => ?_, rg := by simp, w0 := fun h => by simp at h, w4 := fun h => by simp at h, w7 := fun h => by simp at h, w8 := fun _ => ⟨?_, hne, by simp⟩, w9 := fun h => by simp at h, w10 := fun h => by simp at h, w11 := fun h => by simp at h, bmw := fun _ => h.bmw (.inr (.inr ⟨by omega, hne⟩)), rvc := h.rvc }
  · simp only at hx
    rcases List.mem_append.1 hx with hx | hx
    · exact h.cov x hx
    · rw [List.mem_singleton] at hx
      subst hx
      exact hm
  · simp only at hx
    rcases List.mem_append.1 hx with hx | hx
    · exact h.spos x hx
    · rw [List.mem_singleton] at hx
      omega
  · rcases hl with hl | hl
    · exact (h.w7 hl).1
    · exact (h.w8 hl).1
theorem TInv.let' (h : TInv S own ver clk bm th a) (hth : 0 ≤ th) {p : Int} (hp : a.lk[a.fd]? = some p) : (∀ j s, a.fd + 1 ≤ j → a.lk[j]? = some s → s ≠ p ∧ updF own p (-1) s = th) ∧ (∀ s, updF own p (-1) s = th → ∃ j, a.fd + 1 ≤ j ∧ a.lk[j]? = some s) ∧ a.fd + 1 ≤ a.lk.length ∧ a.lk ≠ [] := by
  have hlt := (List.getElem?_eq_some_iff.1 hp).1
  refine ⟨fun j s hj hs => ?_, fun s hs => ?_, by omega, ?_⟩
  · have hsp : s ≠ p := by
      rintro rfl
      have := inc_at h.inc hs hp
      omega
    exact ⟨hsp, by rw [updF_other hsp]; exact h.mine j s (by omega) hs⟩
  · have hsp : s ≠ p := by
      rintro rfl
      rw [updF_same] at hs
      omega
    rw [updF_other hsp] at hs
    obtain ⟨j, h1, h2⟩ := h.held s hs
    refine ⟨j, ?_, h2⟩
    have : j ≠ a.fd := by
      rintro rfl
      rw [hp] at h2
      exact hsp (Option.some.inj h2).symm
    omega
  · intro he
    rw [he] at hlt
    simp at hlt
theorem TInv.free' (h : TInv S own ver clk bm th a) (hth : 0 ≤ th) (hl : (a.last = 8 ∧ (storedA S a.st).length = a.lk.length) ∨ a.last = 9) {p : Int} (hp : a.lk[a.fd]? = some p) (b v : Int) : TInv S (updF own p (-1)) (updF ver p b) clk bm th { a with fd := a.fd + 1, last := 9, lp := p, lv := v } := by
  obtain ⟨l1, l2, l3, l4⟩ := h.let' hth hp
  obtain ⟨b1, b2, b4, b3⟩ := h.bmw (.inr (.inr ⟨by omega, l4⟩))
  exact { inc := h.inc, sinc := h.sinc, mine := fun j s hj hs => (l1 j s hj hs).2, held := l2, fdl := l3, cov := h.cov, lpos := h.lpos, spos := h.spos, rg := by simp, w0 := fun h => by simp at h, w4 := fun h => by simp at h, w7 := fun h => by simp at h, w8 := fun h => by simp at h, w9 := fun _ => ⟨l4, by
      rcases hl with hl | hl
      · exact stored_all h.inc h.cov hl.2
      · exact (h.w9 hl).2⟩, w10 := fun h => by simp at h, w11 := fun h => by simp at h, bmw := fun _ => ⟨b1, b2, b4, fun j s hj hs => by
      rw [updF_other (l1 j s hj hs).1]
      exact b3 j s (by simp only at hj; omega) hs⟩, rvc := h.rvc }
theorem TInv.undo' (h : TInv S own ver clk bm th a) (hth : 0 ≤ th) (hl : a.last = 10 ∨ a.last = 11) {p : Int} (hp : a.lk[a.fd]? = some p) (v : Int) : TInv S (updF own p (-1)) ver clk bm th { a with fd := a.fd + 1, last := 11, lp := p, lv := v } := by
  obtain ⟨l1, l2, l3, l4⟩ := h.let' hth hp
  exact { inc := h.inc, sinc := h.sinc, mine := fun j s hj hs => (l1 j s hj hs).2, held := l2, fdl := l3, cov := h.cov, lpos := h.lpos, spos := h.spos, rg := by simp, w0 := fun h => by simp at h, w4 := fun h => by simp at h, w7 := fun h => by simp at h, w8 := fun h => by simp at h, w9 := fun h => by simp at h, w10 := fun h => by simp at h, w11 := fun _ => ⟨l4, by
      rcases hl with hl | hl
      · exact (h.w10 hl).2
      · exact (h.w11 hl).2⟩, bmw := fun h => by simp at h, rvc := h.rvc }
end
end Go.Proofs.YteigglhhnemngaaGreatDoor
namespace Go.Proofs.YteigglhhnemngaaGreatDoor
set_option maxRecDepth 100000
set_option linter.unusedVariables false
set_option linter.unusedSimpArgs false
theorem may13 {T V S : Int} {q : Sh} {e : Ev} (h : mayS T V S q e = true) : mayB e T V S = true ∧ mayQ S q (q.att e.th) e := by
  unfold mayS at h
  simpa using h
theorem step_parts {S T : Int} {q q' : Sh} {th : Int} {a' : Att} (h : Inv S T q) (hth : 0 ≤ th ∧ th < T) (hatt : q'.att = updF q.att th a') (hown : TInv S q'.own q'.ver q'.clk (q'.bmp th) th a')
    (hbm : ∀ t, t ≠ th → q'.bmp t = q.bmp t) (ho : ∀ s, q'.own s = q.own s ∨ (q.own s < 0 ∧ q'.own s = th) ∨ (q.own s = th ∧ q'.own s = -1)) (hv : ∀ s, q'.ver s = q.ver s ∨ ((q.own s < 0 ∨ q.own s = th) ∧ 0 ≤ q'.ver s ∧ q'.ver s ≤ q'.clk)) (hc : q.clk ≤ q'.clk) : Inv S T q' where
  t := fun t ht => by
    rw [hatt]
    by_cases htt : t = th
    · subst htt
      rw [updF_same]
      exact hown
    · rw [updF_other htt, hbm t htt]
      refine (h.t t ht).other (fun s => ?_) (fun s hs => ?_) hc
      · have := h.own s
        rcases ho s with h1 | ⟨h1, h2⟩ | ⟨h1, h2⟩ <;> constructor <;> intro h3 <;> omega
      · rcases hv s with h1 | ⟨h1 | h1, _⟩
        · exact h1
        · omega
        · omega
  own := fun s => by
    have := h.own s
    rcases ho s with h1 | ⟨h1, h2⟩ | ⟨h1, h2⟩ <;> omega
  ver := fun s => by
    have := h.ver s
    rcases hv s with h1 | ⟨_, h1, h2⟩ <;> omega
theorem att_1 (S th tx pl v x why : Int) (a : Att) : attF S a ⟨1, th, tx, pl, v, x, why⟩ = ⟨v, 0, [], [], 0, 0, [], 0, 1, pl, v⟩ := by simp [attF]
theorem att_2 (S th tx pl v x why : Int) (a : Att) : attF S a ⟨2, th, tx, pl, v, x, why⟩ = { a with last := 2, lp := pl, lv := v } := by simp [attF]
theorem att_3 (S th tx pl v x why : Int) (a : Att) : attF S a ⟨3, th, tx, pl, v, x, why⟩ = { a with rd := putL a.rd (pl % S), last := 3, lp := pl, lv := v } := by simp [attF]
theorem att_4 (S th tx pl v x why : Int) (a : Att) : attF S a ⟨4, th, tx, pl, v, x, why⟩ = { a with lk := a.lk ++ [pl], last := 4, lp := pl, lv := v } := by simp [attF]
theorem att_5 (S th tx pl v x why : Int) (a : Att) : attF S a ⟨5, th, tx, pl, v, x, why⟩ = { a with wv := v, last := 5, lp := pl, lv := v } := by simp [attF]
theorem att_6 (S th tx pl v x why : Int) (a : Att) : attF S a ⟨6, th, tx, pl, v, x, why⟩ = { a with ck := a.ck + 1, last := 6, lp := pl, lv := v } := by simp [attF]
theorem att_7 (S th tx pl v x why : Int) (a : Att) : attF S a ⟨7, th, tx, pl, v, x, why⟩ = { a with last := 7, lp := pl, lv := v } := by simp [attF]
theorem att_8 (S th tx pl v x why : Int) (a : Att) : attF S a ⟨8, th, tx, pl, v, x, why⟩ = { a with st := a.st ++ [pl], last := 8, lp := pl, lv := v } := by simp [attF]
theorem att_9 (S th tx pl v x why : Int) (a : Att) : attF S a ⟨9, th, tx, pl, v, x, why⟩ = { a with fd := a.fd + 1, last := 9, lp := pl, lv := v } := by simp [attF]
theorem att_10 (S th tx pl v x why : Int) (a : Att) : attF S a ⟨10, th, tx, pl, v, x, why⟩ = { a with why := why, last := 10, lp := pl, lv := v } := by simp [attF]
theorem att_11 (S th tx pl v x why : Int) (a : Att) : attF S a ⟨11, th, tx, pl, v, x, why⟩ = { a with fd := a.fd + 1, last := 11, lp := pl, lv := v } := by simp [attF]
theorem att_12 (S th tx pl v x why : Int) (a : Att) : attF S a ⟨12, th, tx, pl, v, x, why⟩ = { a with last := 12, lp := pl, lv := v } := by simp [attF]
theorem att_13 (S th tx pl v x why : Int) (a : Att) : attF S a ⟨13, th, tx, pl, v, x, why⟩ = { a with last := 13, lp := pl, lv := v } := by simp [attF]
theorem step_inv {S T V : Int} {q : Sh} {e : Ev} (h : Inv S T q) (hm : mayS T V S q e = true) : Inv S T (stepS S q e) := by
  obtain ⟨hb, hq⟩ := may13 hm
  obtain ⟨hsz, hth, hk⟩ := (may_iff _ _ _ _).1 hb
  have hI := h.t e.th hth.1
  have hVer := h.ver
  have hrv := hI.rvc
  clear hm hb hsz
  obtain ⟨kd, th, tx, pl, v, x, why⟩ := e
  simp only at hth hq hI hrv
  unfold MayK at hk
  simp only at hk
  have ht0 : 0 ≤ th := hth.1
  have hth2 : 0 ≤ th ∧ th < T := ⟨hth.1, by omega⟩
  generalize ha : q.att th = a at hq hI hrv
  have : kd = 1 ∨ kd = 2 ∨ kd = 3 ∨ kd = 4 ∨ kd = 5 ∨ kd = 6 ∨ kd = 7 ∨ kd = 8 ∨ kd = 9 ∨ kd = 10 ∨ kd = 11 ∨ kd = 12 ∨ kd = 13 := by omega
  rcases this with rfl | rfl | rfl | rfl | rfl | rfl | rfl | rfl | rfl | rfl | rfl | rfl | rfl
  · simp [mayQ, readsA, checksA] at hq
    refine step_parts h hth2 (a' := ⟨v, 0, [], [], 0, 0, [], 0, 1, pl, v⟩) (by simp only [stepS, ha, att_1]) ?_ (fun t ht => rfl) (fun s => .inl rfl) (fun s => .inl rfl) (by simp only [stepS]; simp; exact hq.2.2.2)
    simpa [stepS] using hI.begin' hq.1 v pl
  · simp [mayQ, readsA, checksA] at hq
    have hn := hI.w0 (by omega)
    refine step_parts h hth2 (a' := { a with last := 2, lp := pl, lv := v }) (by simp only [stepS, ha, att_2]) ?_ (fun t ht => rfl) (fun s => .inl rfl) (fun s => by
      simp only [stepS]
      simp
      by_cases hs : s = pl
      · subst hs
        rw [updF_same]
        exact .inr ⟨.inl hq.2.2.1, by omega, by omega⟩
      · rw [updF_other hs]
        exact .inl rfl) (by simp [stepS])
    simpa [stepS] using hI.none hn.1 hn.2 (ver' := updF q.ver pl v) 2 (by omega) a.rd a.why pl v
  · simp [mayQ, readsA, checksA] at hq
    have hn := hI.w0 (by omega)
    refine step_parts h hth2 (a' := { a with rd := putL a.rd (pl % S), last := 3, lp := pl, lv := v }) (by simp only [stepS, ha, att_3]) ?_ (fun t ht => rfl) (fun s => .inl rfl) (fun s => .inl rfl) (by simp [stepS])
    simpa [stepS] using hI.none hn.1 hn.2 (ver' := q.ver) 3 (by omega) (putL a.rd (pl % S)) a.why pl v
  · simp [mayQ, readsA, checksA] at hq
    refine step_parts h hth2 (a' := { a with lk := a.lk ++ [pl], last := 4, lp := pl, lv := v }) (by simp only [stepS, ha, att_4]) ?_ (fun t ht => rfl) (fun s => by
      simp only [stepS]
      simp
      by_cases hs : s = pl
      · subst hs
        rw [updF_same]
        exact .inr (.inl ⟨hq.2.2.2, rfl⟩)
      · rw [updF_other hs]
        exact .inl rfl) (fun s => .inl rfl) (by simp [stepS])
    simpa [stepS] using hI.lock' ht0 (by omega) hq.2.2.1 hq.2.2.2 (by omega) (by omega) v
  · simp [mayQ, readsA, checksA] at hq
    refine step_parts h hth2 (a' := { a with wv := v, last := 5, lp := pl, lv := v }) (by simp only [stepS, ha, att_5]) ?_ (fun t ht => by simp [stepS, updF_other ht]) (fun s => .inl rfl) (fun s => .inl rfl) (by simp only [stepS]; simp; omega)
    simpa [stepS, updF_same] using hI.bump' hq.2.1 hq.2.2 (fun s => (hVer s).2) pl
  · simp [mayQ, readsA, checksA] at hq
    refine step_parts h hth2 (a' := { a with ck := a.ck + 1, last := 6, lp := pl, lv := v }) (by simp only [stepS, ha, att_6]) ?_ (fun t ht => rfl) (fun s => .inl rfl) (fun s => .inl rfl) (by simp [stepS])
    simpa [stepS] using hI.check' hq.2.1 pl v
  · simp [mayQ, readsA, checksA] at hq
    refine step_parts h hth2 (a' := { a with last := 7, lp := pl, lv := v }) (by simp only [stepS, ha, att_7]) ?_ (fun t ht => rfl) (fun s => .inl rfl) (fun s => .inl rfl) (by simp [stepS])
    by_cases hv0 : v = 0
    · rw [if_pos hv0] at hq
      have hn := hI.w0 (by omega)
      simpa [stepS] using hI.none hn.1 hn.2 (ver' := q.ver) 7 (by omega) a.rd a.why pl v
    · rw [if_neg hv0] at hq
      simpa [stepS] using hI.commit' hq.2.1 pl v
  · simp [mayQ, readsA, checksA] at hq
    refine step_parts h hth2 (a' := { a with st := a.st ++ [pl], last := 8, lp := pl, lv := v }) (by simp only [stepS, ha, att_8]) ?_ (fun t ht => rfl) (fun s => .inl rfl) (fun s => .inl rfl) (by simp [stepS])
    simpa [stepS] using hI.store' hq.2.1 hq.2.2.1 hq.2.2.2 (by omega) v
  · simp [mayQ, readsA, checksA] at hq
    have hpo := hI.mine _ _ (Nat.le_refl _) hq.2.2
    have hbm := hI.bmw (.inr (.inr ⟨by omega, (hI.let' ht0 hq.2.2).2.2.2⟩))
    have hvp := hVer pl
    have hbv := hbm.2.2.2 _ _ (Nat.le_refl _) hq.2.2
    refine step_parts h hth2 (a' := { a with fd := a.fd + 1, last := 9, lp := pl, lv := v }) (by simp only [stepS, ha, att_9]) ?_ (fun t ht => rfl) (fun s => by
      simp only [stepS]
      simp
      by_cases hs : s = pl
      · subst hs
        rw [updF_same]
        exact .inr (.inr ⟨hpo, rfl⟩)
      · rw [updF_other hs]
        exact .inl rfl) (fun s => by
      simp only [stepS]
      simp
      by_cases hs : s = pl
      · subst hs
        rw [updF_same]
        exact .inr ⟨.inr hpo, by omega, by omega⟩
      · rw [updF_other hs]
        exact .inl rfl) (by simp [stepS])
    simpa [stepS] using hI.free' ht0 hq.2.1 hq.2.2 (q.bmp th) v
  · simp [mayQ, mayAb, readsA, checksA] at hq
    refine step_parts h hth2 (a' := { a with why := why, last := 10, lp := pl, lv := v }) (by simp only [stepS, ha, att_10]) ?_ (fun t ht => rfl) (fun s => .inl rfl) (fun s => .inl rfl) (by simp [stepS])
    have hl : (a.last = 1 ∨ a.last = 2 ∨ a.last = 3) ∨ (a.last = 4 ∨ a.last = 5 ∨ a.last = 6) := by
      obtain ⟨_, hq⟩ := hq
      split at hq
      · omega
      · split at hq
        · omega
        · split at hq
          · omega
          · split at hq
            · omega
            · split at hq <;> omega
    rcases hl with hl | hl
    · have hn := hI.w0 (by omega)
      simpa [stepS] using hI.none hn.1 hn.2 (ver' := q.ver) 10 (by omega) a.rd why pl v
    · simpa [stepS] using hI.abort' hl why pl v
  · simp [mayQ, readsA, checksA] at hq
    have hpo := hI.mine _ _ (Nat.le_refl _) hq.2.2
    refine step_parts h hth2 (a' := { a with fd := a.fd + 1, last := 11, lp := pl, lv := v }) (by simp only [stepS, ha, att_11]) ?_ (fun t ht => rfl) (fun s => by
      simp only [stepS]
      simp
      by_cases hs : s = pl
      · subst hs
        rw [updF_same]
        exact .inr (.inr ⟨hpo, rfl⟩)
      · rw [updF_other hs]
        exact .inl rfl) (fun s => .inl rfl) (by simp [stepS])
    simpa [stepS] using hI.undo' ht0 hq.2.1 hq.2.2 v
  · simp [mayQ, readsA, checksA] at hq
    have hn := hI.w0 (by omega)
    refine step_parts h hth2 (a' := { a with last := 12, lp := pl, lv := v }) (by simp only [stepS, ha, att_12]) ?_ (fun t ht => rfl) (fun s => .inl rfl) (fun s => .inl rfl) (by simp [stepS])
    simpa [stepS] using hI.none hn.1 hn.2 (ver' := q.ver) 12 (by omega) a.rd a.why pl v
  · simp [mayQ, readsA, checksA] at hq
    have hn := hI.w0 (by omega)
    refine step_parts h hth2 (a' := { a with last := 13, lp := pl, lv := v }) (by simp only [stepS, ha, att_13]) ?_ (fun t ht => rfl) (fun s => .inl rfl) (fun s => .inl rfl) (by simp [stepS])
    simpa [stepS] using hI.none hn.1 hn.2 (ver' := q.ver) 13 (by omega) a.rd a.why pl v
theorem fine_inv {S T V : Int} {l : List Ev} (h : Fine T V S l) (i : Nat) (hi : i ≤ l.length) : Inv S T (behind S (l.take i)) := by
  induction i with
  | zero => exact init_inv S T
  | succ i ih =>
    obtain ⟨e, he⟩ : ∃ e, l[i]? = some e := ⟨_, List.getElem?_eq_getElem (by omega)⟩
    rw [behind_next he]
    exact step_inv (ih (by omega)) (h i e he)
end Go.Proofs.YteigglhhnemngaaGreatDoor
