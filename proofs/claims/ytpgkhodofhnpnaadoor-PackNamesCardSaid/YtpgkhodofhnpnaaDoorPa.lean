/-
  SETUPS AS BYTES (layer 7), PLAIN: what a text is read as, number by number, with the place and what is wrong first; what a setup's bytes are; what is read are just the bytes of what it tells; what is refused is so within the text. No condition.
-/
import Derived.Test.YtpgkhodofhnpnaaDoorZa
import Derived.Test.YtpgkhodofhnpnaaDoorUm
namespace Go.Proofs.YtpgkhodofhnpnaaDoor
set_option maxRecDepth 100000
open Go.RowKit
set_option linter.unusedVariables false
def zigW (x : Int) : Nat := (if x < 0 then -2 * x - 1 else 2 * x).toNat
def zagW (n : Nat) : Int := if (n : Int) % 2 = 0 then (n : Int) / 2 else - ((n : Int) / 2) - 1
theorem zig_zagW (n : Nat) : zigW (zagW n) = n := by unfold zigW zagW; split <;> split <;> omega
/-- What was read, and the next place; or the place, and what was wrong there. -/
abbrev Res (α : Type) := Except (Nat × Int) (α × Nat)
def andThen {α β : Type} (r : Res α) (k : α → Nat → Res β) : Res β := match r with
  | .error e => .error e
  | .ok (x, p) => k x p
section
variable (s : List UInt8)
def pNum (lo hi : Nat) (at_ : Nat) : Res Nat :=
  if (Vm.get (s.drop at_)).2.2 ≠ 0 then .error (at_, ((Vm.get (s.drop at_)).2.2 : Int)) else if (Vm.get (s.drop at_)).1 < lo ∨ hi < (Vm.get (s.drop at_)).1 then .error (at_, 20) else .ok ((Vm.get (s.drop at_)).1, at_ + (Vm.get (s.drop at_)).2.1)
def pWhole (at_ : Nat) : Res Int := andThen (pNum s 0 18446744073709551615 at_) fun n p => .ok (zagW n, p)
def pEx : Nat → Nat → Res Ex
  | 0, at_ => andThen (pNum s 1 8 at_) fun _ _ => .error (at_, 40)
  | d + 1, at_ => andThen (pNum s 1 8 at_) fun op p =>
    if op = 1 then andThen (pWhole s p) fun n q => .ok (.node op n [], q)
    else if op = 2 then andThen (pNum s 0 7 p) fun n q => .ok (.node op n [], q)
    else if op = 3 then andThen (pNum s 0 5 p) fun n q => .ok (.node op n [], q)
    else andThen (pEx d p) fun a q => andThen (pEx d q) fun b q2 => .ok (.node op 0 [a, b], q2)
def pRep {α : Type} (f : Nat → Res α) : Nat → Nat → Res (List α)
  | 0, p => .ok ([], p)
  | m + 1, p => andThen (f p) fun x q => andThen (pRep f m q) fun xs q2 => .ok (x :: xs, q2)
def ex0 : Ex := .node 0 0 []
def pSt (blk : Nat → Res (List St)) (at_ : Nat) : Res St := andThen (pNum s 1 8 at_) fun k p =>
  if k = 1 ∨ k = 2 then andThen (pNum s 0 7 p) fun t q => andThen (pEx s 6 q) fun a q2 => .ok (.node k t a ex0 [] [], q2)
  else if k = 3 then andThen (pEx s 6 p) fun a q => andThen (pEx s 6 q) fun b q2 => .ok (.node k 0 a b [] [], q2)
  else if k = 4 then andThen (pEx s 6 p) fun a q => andThen (blk q) fun y q2 => andThen (blk q2) fun e q3 => .ok (.node k 0 a ex0 y e, q3)
  else if k = 5 then andThen (pEx s 6 p) fun a q => andThen (blk q) fun y q2 => .ok (.node k 0 a ex0 y [], q2)
  else if k = 6 then .ok (.node k 0 ex0 ex0 [] [], p)
  else if k = 7 then andThen (blk p) fun y q => andThen (blk q) fun e q2 => .ok (.node k 0 ex0 ex0 y e, q2)
  else andThen (pEx s 6 p) fun a q => .ok (.node k 0 a ex0 [] [], q)
def pBl : Nat → Nat → Res (List St)
  | 0, at_ => andThen (pNum s 0 40 at_) fun m p => if m = 0 then .ok ([], p) else .error (at_, 40)
  | d + 1, at_ => andThen (pNum s 0 40 at_) fun m p => pRep (pSt s (pBl d)) m p
def pTh (at_ : Nat) : Res (List (List St)) := andThen (pNum s 0 6 at_) fun m p => pRep (pBl s 6) m p
/-- A body, up to its last number. -/
def pSu : Res Su := andThen (pNum s 1 32 0) fun vars p => andThen (pRep (pWhole s) vars p) fun ini p1 => andThen (pNum s 1 vars p1) fun st p2 => andThen (pNum s 0 1099511627776 p2) fun cl p3 =>
  andThen (pNum s 1 1000 p3) fun tr p4 => andThen (pNum s 0 6 p4) fun m p5 => andThen (pRep (pTh s) m p5) fun thr p6 => .ok (⟨st, cl, tr, ini, thr⟩, p6)
/-- A body: what it is, or where it is wrong. -/
def pBody (ok : Su → Bool) : Res Su := andThen (pSu s) fun x p => if p < s.length then .error (p, 10) else if ok x then .ok (x, p) else .error (p, 4)
end
/-! ### The bytes of what is told -/
def prE : Nat → Ex → List UInt8
  | 0, _ => []
  | d + 1, .node op n args => Vm.put op ++ (if op = 1 then Vm.put (zigW n) else if op = 2 ∨ op = 3 then Vm.put n.toNat else match args with
    | [a, b] => prE d a ++ prE d b
    | _ => [])
def prS (blk : List St → List UInt8) : St → List UInt8
  | .node k t a b y e => Vm.put k ++ (if k = 1 ∨ k = 2 then Vm.put t.toNat ++ prE 6 a else if k = 3 then prE 6 a ++ prE 6 b else if k = 4 then prE 6 a ++ (blk y ++ blk e) else if k = 5 then prE 6 a ++ blk y else if k = 6 then [] else if k = 7 then blk y ++ blk e else prE 6 a)
def prAll {α : Type} (f : α → List UInt8) : List α → List UInt8
  | [] => []
  | x :: r => f x ++ prAll f r
def prB : Nat → List St → List UInt8
  | 0, l => Vm.put l.length
  | d + 1, l => Vm.put l.length ++ prAll (prS (prB d)) l
def prT (l : List (List St)) : List UInt8 := Vm.put l.length ++ prAll (prB 6) l
def prSu (x : Su) : List UInt8 := Vm.put x.init.length ++ (prAll (fun n => Vm.put (zigW n)) x.init ++ (Vm.put x.st.toNat ++ (Vm.put x.cl.toNat ++ (Vm.put x.tr.toNat ++ (Vm.put x.thr.length ++ prAll prT x.thr)))))
/-! ### What is read are just the bytes -/
section
variable {s : List UInt8}
/-- What is refused is so within the text, by what may be told; what is read goes over bytes of which P tells. -/
def GoodP {α : Type} (s : List UInt8) (at_ : Nat) (P : α → List UInt8 → Prop) : Res α → Prop
  | .error (p, e) => p ≤ s.length ∧ e ≠ 0 ∧ e ≠ 9
  | .ok (x, p) => at_ ≤ p ∧ p ≤ s.length ∧ ∃ bs, s.drop at_ = bs ++ s.drop p ∧ P x bs
theorem good_then {α β : Type} {at_ : Nat} {P : α → List UInt8 → Prop} {Q : β → List UInt8 → Prop} {r : Res α} {k : α → Nat → Res β} (h : GoodP s at_ P r) (hk : ∀ x p bs, at_ ≤ p → p ≤ s.length → P x bs → GoodP s p (fun y cs => Q y (bs ++ cs)) (k x p)) : GoodP s at_ Q (andThen r k) := by
  match r, h with
  | .error (p, e), h => exact h
  | .ok (x, p), h =>
    obtain ⟨h1, h2, bs, h3, h4⟩ := h
    have h5 := hk x p bs h1 h2 h4
    show GoodP s at_ Q (k x p)
    generalize k x p = r at h5
    match r, h5 with
    | .error (q, e), h5 => exact h5
    | .ok (y, q), h5 =>
      obtain ⟨q1, q2, cs, q3, q4⟩ := h5
      exact ⟨Nat.le_trans h1 q1, q2, bs ++ cs, by rw [h3, q3, List.append_assoc], q4⟩
theorem good_ok {α : Type} {at_ : Nat} {Q : α → List UInt8 → Prop} {x : α} (ha : at_ ≤ s.length) (h : Q x []) : GoodP s at_ Q (.ok (x, at_)) := ⟨Nat.le_refl _, ha, [], rfl, h⟩
theorem good_err {α : Type} {at_ at0 : Nat} {Q : α → List UInt8 → Prop} {e : Int} (ha : at_ ≤ s.length) (he : e ≠ 0) (h9 : e ≠ 9) : GoodP s at0 Q (.error (at_, e)) := ⟨ha, he, h9⟩
theorem good_mono {α : Type} {at_ : Nat} {P Q : α → List UInt8 → Prop} {r : Res α} (h : GoodP s at_ P r) (hpq : ∀ x bs, P x bs → Q x bs) : GoodP s at_ Q r := by
  match r, h with
  | .error (p, e), h => exact h
  | .ok (x, p), ⟨h1, h2, bs, h3, h4⟩ => exact ⟨h1, h2, bs, h3, hpq x bs h4⟩
theorem good_num {lo hi at_ : Nat} (ha : at_ ≤ s.length) : GoodP s at_ (fun n bs => lo ≤ n ∧ n ≤ hi ∧ bs = Vm.put n) (pNum s lo hi at_) := by
  unfold pNum
  rcases Vm.get_shape (s.drop at_) 0 0 (by omega) with h | ⟨m, z, e, s1, s2, s3, s4, s5, s6⟩
  · have hg : Vm.get (s.drop at_) = (0, 0, 8) ∨ Vm.get (s.drop at_) = (0, 0, 20) ∨ Vm.get (s.drop at_) = (0, 0, 11) := h
    rcases hg with e | e | e <;> rw [e] <;> exact ⟨ha, by decide, by decide⟩
  · have hg : Vm.get (s.drop at_) = (m, z, 0) := by
      have : Vm.get (s.drop at_) = (0 + m * 128 ^ 0, 0 + z, 0) := e
      simpa using this
    rw [hg]
    dsimp only
    rw [if_neg (by simp)]
    split
    · exact ⟨ha, by decide, by decide⟩
    · rw [List.length_drop] at s2
      refine ⟨by omega, by omega, (s.drop at_).take z, ?_, by omega, by omega, ?_⟩
      · rw [← List.drop_drop, List.take_append_drop]
      · exact (s6 10 (by omega)).symm
theorem good_whole {at_ : Nat} (ha : at_ ≤ s.length) : GoodP s at_ (fun n bs => bs = Vm.put (zigW n)) (pWhole s at_) :=
  good_then (good_num ha) fun n p bs _ hp h => good_ok hp (by rw [zig_zagW, List.append_nil]; exact h.2.2)
theorem good_ex : ∀ (d at_ : Nat), at_ ≤ s.length → GoodP s at_ (fun e bs => bs = prE d e) (pEx s d at_) := by
  intro d
  induction d with
  | zero => intro at_ ha; exact good_then (good_num ha) fun n p bs h1 hp h => good_err ha (by decide) (by decide)
  | succ d ih =>
    intro at_ ha
    rw [pEx]
    refine good_then (good_num ha) fun op p bs h1 hp h => ?_
    obtain ⟨_, _, rfl⟩ := h
    split
    · next he =>
      subst he
      exact good_then (good_whole hp) fun n q cs h2 hq hn => good_ok hq (by rw [hn, List.append_nil]; rfl)
    · split
      · next he =>
        subst he
        exact good_then (good_num hp) fun n q cs h2 hq hn => good_ok hq (by rw [hn.2.2, List.append_nil]; rfl)
      · split
        · next he =>
          subst he
          exact good_then (good_num hp) fun n q cs h2 hq hn => good_ok hq (by rw [hn.2.2, List.append_nil]; rfl)
        · next e1 e2 e3 =>
          refine good_then (ih p hp) fun a q cs h2 hq hn => good_then (ih q hq) fun b q2 ds h3 hq2 hm => good_ok hq2 ?_
          rw [hn, hm, List.append_nil, prE, if_neg e1, if_neg (by omega)]
theorem good_rep {α : Type} {f : Nat → Res α} {pr : α → List UInt8} (hf : ∀ p, p ≤ s.length → GoodP s p (fun x bs => bs = pr x) (f p)) : ∀ (m p : Nat), p ≤ s.length → GoodP s p (fun xs bs => xs.length = m ∧ bs = prAll pr xs) (pRep f m p) := by
  intro m
  induction m with
  | zero => intro p hp; exact good_ok hp ⟨rfl, rfl⟩
  | succ m ih =>
    intro p hp
    refine good_then (hf p hp) fun x q bs _ hq hx => good_then (ih q hq) fun xs q2 cs _ hq2 hxs => good_ok hq2 ⟨by simp [hxs.1], ?_⟩
    rw [hx, hxs.2, List.append_nil]
    rfl
theorem good_st {blk : Nat → Res (List St)} {pb : List St → List UInt8} (hb : ∀ p, p ≤ s.length → GoodP s p (fun x bs => bs = pb x) (blk p)) (at_ : Nat) (ha : at_ ≤ s.length) : GoodP s at_ (fun x bs => bs = prS pb x) (pSt s blk at_) := by
  unfold pSt
  refine good_then (good_num ha) fun k p bs h1 hp h => ?_
  obtain ⟨k1, k8, rfl⟩ := h
  split
  · next e =>
    refine good_then (good_num hp) fun t q cs h2 hq ht => good_then (good_ex 6 q hq) fun a q2 ds h3 hq2 hx => good_ok hq2 ?_
    rw [ht.2.2, hx, List.append_nil, prS, if_pos e]
    rfl
  · next e1 =>
    split
    · next e =>
      refine good_then (good_ex 6 p hp) fun a q cs h2 hq hx => good_then (good_ex 6 q hq) fun b q2 ds h3 hq2 hy => good_ok hq2 ?_
      rw [hx, hy, List.append_nil, prS, if_neg e1, if_pos e]
    · next e2 =>
      split
      · next e =>
        refine good_then (good_ex 6 p hp) fun a q cs h2 hq hx => good_then (hb q hq) fun y q2 ds h3 hq2 hy => good_then (hb q2 hq2) fun z q3 es h4 hq3 hz => good_ok hq3 ?_
        rw [hx, hy, hz, List.append_nil, prS, if_neg e1, if_neg e2, if_pos e]
      · next e3 =>
        split
        · next e =>
          refine good_then (good_ex 6 p hp) fun a q cs h2 hq hx => good_then (hb q hq) fun y q2 ds h3 hq2 hy => good_ok hq2 ?_
          rw [hx, hy, List.append_nil, prS, if_neg e1, if_neg e2, if_neg e3, if_pos e]
        · next e4 =>
          split
          · next e =>
            refine good_ok hp ?_
            rw [List.append_nil, prS, if_neg e1, if_neg e2, if_neg e3, if_neg e4, if_pos e, List.append_nil]
          · next e5 =>
            split
            · next e =>
              refine good_then (hb p hp) fun y q ds h3 hq hy => good_then (hb q hq) fun z q3 es h4 hq3 hz => good_ok hq3 ?_
              rw [hy, hz, List.append_nil, prS, if_neg e1, if_neg e2, if_neg e3, if_neg e4, if_neg e5, if_pos e]
            · next e6 =>
              refine good_then (good_ex 6 p hp) fun a q cs h2 hq hx => good_ok hq ?_
              rw [hx, List.append_nil, prS, if_neg e1, if_neg e2, if_neg e3, if_neg e4, if_neg e5, if_neg e6]
theorem good_bl : ∀ (d at_ : Nat), at_ ≤ s.length → GoodP s at_ (fun x bs => bs = prB d x) (pBl s d at_) := by
  intro d
  induction d with
  | zero =>
    intro at_ ha
    rw [pBl]
    refine good_then (good_num ha) fun m p bs h1 hp h => ?_
    obtain ⟨_, _, rfl⟩ := h
    split
    · next e =>
      subst e
      exact good_ok hp (by rw [List.append_nil]; rfl)
    · exact good_err ha (by decide) (by decide)
  | succ d ih =>
    intro at_ ha
    rw [pBl]
    refine good_then (good_num ha) fun m p bs h1 hp h => ?_
    obtain ⟨_, _, rfl⟩ := h
    refine good_mono (good_rep (good_st ih) m p hp) fun xs bs hx => ?_
    rw [hx.2, prB, hx.1]
theorem good_th (at_ : Nat) (ha : at_ ≤ s.length) : GoodP s at_ (fun x bs => bs = prT x) (pTh s at_) := by
  unfold pTh
  refine good_then (good_num ha) fun m p bs h1 hp h => ?_
  obtain ⟨_, _, rfl⟩ := h
  refine good_mono (good_rep (good_bl 6) m p hp) fun xs bs hx => ?_
  rw [hx.2, prT, hx.1]
theorem good_su : GoodP s 0 (fun x bs => bs = prSu x) (pSu s) := by
  unfold pSu
  refine good_then (good_num (Nat.zero_le _)) fun vars p b0 _ hp h0 => good_then (good_rep (fun p hp => good_whole hp) vars p hp) fun ini p1 b1 _ hp1 h1 => good_then (good_num hp1) fun st p2 b2 _ hp2 h2 => good_then (good_num hp2) fun cl p3 b3 _ hp3 h3 => good_then (good_num hp3) fun tr p4 b4 _ hp4 h4 => good_then (good_num hp4) fun m p5 b5 _ hp5 h5 => good_then (good_rep (fun p hp => good_th p hp) m p5 hp5) fun thr p6 b6 _ hp6 h6 => good_ok hp6 ?_
  rw [h0.2.2, h1.2, h2.2.2, h3.2.2, h4.2.2, h5.2.2, h6.2, List.append_nil, prSu]
  dsimp only
  rw [h1.1, h6.1]
  rfl
/-- THE PLAIN HALF OF PackBody: what is not refused is just the bytes of what is told, and may be; what is refused is so within the body. -/
theorem body_any (ok : Su → Bool) : match pBody s ok with
    | .error (p, e) => p ≤ s.length ∧ e ≠ 0 ∧ e ≠ 9
    | .ok (x, _) => ok x = true ∧ s = prSu x := by
  have h := good_su (s := s)
  unfold pBody
  generalize pSu s = r at h
  match r, h with
  | .error (p, e), h => exact h
  | .ok (x, p), ⟨_, h2, bs, h3, h4⟩ =>
    show match (if p < s.length then Except.error (p, 10) else if ok x = true then Except.ok (x, p) else Except.error (p, 4) : Res Su) with
      | .error (p, e) => p ≤ s.length ∧ e ≠ 0 ∧ e ≠ 9
      | .ok (x, _) => ok x = true ∧ s = prSu x
    by_cases hp : p < s.length
    · rw [if_pos hp]
      exact ⟨h2, by decide, by decide⟩
    · rw [if_neg hp]
      by_cases ho : ok x = true
      · rw [if_pos ho]
        refine ⟨ho, ?_⟩
        rw [List.drop_zero, List.drop_eq_nil_of_le (by omega), List.append_nil] at h3
        rw [h3, h4]
      · rw [if_neg ho]
        exact ⟨h2, by decide, by decide⟩
end
end Go.Proofs.YtpgkhodofhnpnaaDoor
