/-
  CONTRACTS OF PACKAGE code's Same and same, and of slices.EqualFunc as Same calls it: whether two transactions in memory are the same; the memory that was there stays as it was. Conditions: as they stand.
-/
import Derived.Test.YtnkdaehmdcpafaaDoorCm
import Derived.Test.YtnkdaehmdcpafaaDoorDs
namespace Go.Proofs.YtnkdaehmdcpafaaDoor
open Go.RowKit
set_option linter.unusedVariables false
def SameC (d : Nat) : Prop := ∀ (r q : Raw) (s u : St) (lo hi lo' hi' : Nat) (w : World), SAt w lo hi d r s → SAt w lo' hi' d q u → hi ≤ w.heap.size → hi' ≤ w.heap.size →
    Calls Tryd.prog 65 #[r.v, q.v] w fun z w' => z = .returned (.bool (sameS d s u)) ∧ Below w.heap.size w w'
set_option maxRecDepth 100000 in
theorem eqs_any (d : Nat) (ih : SameC d) (args brgs : List St) (A B : Option Addr) (c c' lo hi lo' hi' : Nat) (w : World) (hk : SKids w lo hi d A args) (hk' : SKids w lo' hi' d B brgs) (hhi : hi ≤ w.heap.size) (hhi' : hi' ≤ w.heap.size) (q4 : args.length ≤ 9223372036854775807) (p4 : brgs.length ≤ 9223372036854775807) :
    Calls Tryd.prog 64 #[.slice A args.length c, .slice B brgs.length c', .func (.func 65) #[] #[]] w fun r w' => r = .returned (.bool (sameSL (sameS d) args brgs)) ∧ Below w.heap.size w w' := by
  have HK := Lib.hid hk
  have HK' := Lib.hid hk'
  have IH := Lib.hid ih
  clear hk hk' ih
  by_cases e3 : args.length = brgs.length
  · have E3 := Lib.hid e3
    rw [← e3]
    clear e3 p4
    go_enter Tryd.func64, Tryd.ntmps64
    go_wp2_with fail
    go_loopw [17] (fun i wr => ∃ k : Nat, k ≤ args.length ∧ i = .int .i64 k ∧ Hid (sameSL (sameS d) args brgs = sameSL (sameS d) (args.drop k) (brgs.drop k)) ∧ Below w.heap.size w wr) (fun i _ => args.length - (intOf i).toNat)
    case atStart => exact ⟨0, by omega, rfl, rfl, Below.refl _ _⟩
    case round =>
      obtain ⟨k, hk, rfl, hall, hb⟩ := hrel
      by_cases hlt : k < args.length
      · obtain ⟨p, q, rfl, m1, m2, ht, hs⟩ := HK.out.below hb (by omega) k hlt
        obtain ⟨p', q', rfl, m1', m2', ht', hs'⟩ := HK'.out.below hb (by omega) k (by rw [← E3.out]; exact hlt)
        have bx := ten_below wr q
        have zx := bx.size
        have bx2 := bx.trans ((ten_below _ q').mono zx)
        have hz := hb.size
        have hz2 := bx2.size
        have hd := sameSL_drop (sameS d) args brgs k hlt (by rw [← E3.out]; exact hlt)
        rw [hd] at hall
        have HI := Lib.hid (IH.out q q' args[k] (brgs[k]'(by rw [← E3.out]; exact hlt)) _ _ _ _ _ (hs.below bx2 (by omega)) (hs'.below bx2 (by omega)) (by omega) (by omega))
        have hu := ht'.below bx (by rw [ad_block]; omega)
        obtain ⟨bv, hbv⟩ : ∃ bv, bv = sameS d args[k] (brgs[k]'(by rw [← E3.out]; exact hlt)) := ⟨_, rfl⟩
        rw [← hbv] at HI hall
        clear hbv hd hs hs' ht'
        obtain ⟨k0, k1, k2, k3, k4, k5, k6, k7, k8, k9, ka, kb, kc, kd, ke, kf, kg, kh⟩ := q
        obtain ⟨j0, j1, j2, j3, j4, j5, j6, j7, j8, j9, ja, jb, jc, jd, je, jf, jg, jh⟩ := q'
        simp only [Raw.v] at HI
        have g0 := ht.c0
        have g1 := ht.c1
        have g2 := ht.c2
        have g3 := ht.c3
        have g4 := ht.c4
        have g5 := ht.c5
        have g6 := ht.c6
        have g7 := ht.c7
        have g8 := ht.c8
        have g9 := ht.c9
        have u0 := hu.c0
        have u1 := hu.c1
        have u2 := hu.c2
        have u3 := hu.c3
        have u4 := hu.c4
        have u5 := hu.c5
        have u6 := hu.c6
        have u7 := hu.c7
        have u8 := hu.c8
        have u9 := hu.c9
        dsimp only at g0 g1 g2 g3 g4 g5 g6 g7 g8 g9 u0 u1 u2 u3 u4 u5 u6 u7 u8 u9
        have HX := Lib.hid bx2
        have i1 : (0 : Int) ≤ (k : Int) := by omega
        have i2 : (k : Int) < (args.length : Int) := by omega
        clear bx bx2 hz hz2 ht hu zx
        cases bv with
        | true =>
          have HA2 : Hid (sameSL (sameS d) args brgs = sameSL (sameS d) (args.drop (k + 1)) (brgs.drop (k + 1))) := hall
          clear hall
          go_wp2_with fail
          refine HI.out.mono ?_
          rintro r w5 ⟨rfl, b5⟩
          clear g0 g1 g2 g3 g4 g5 g6 g7 g8 g9 u0 u1 u2 u3 u4 u5 u6 u7 u8 u9
          go_wp2_with fail
          go_roundw
          case rel => exact ⟨k + 1, by omega, by go_num, HA2, hb.trans ((HX.out.trans (b5.mono HX.out.size)).mono hb.size)⟩
          case measure => simp [intOf]; omega
        | false =>
          have HA2 : Hid (sameSL (sameS d) args brgs = false) := hall
          clear hall
          go_wp2_with fail
          refine HI.out.mono ?_
          rintro r w5 ⟨rfl, b5⟩
          clear g0 g1 g2 g3 g4 g5 g6 g7 g8 g9 u0 u1 u2 u3 u4 u5 u6 u7 u8 u9
          go_wp2_with fail
          go_ret
          exact ⟨by rw [HA2.out]; rfl, hb.trans ((HX.out.trans (b5.mono HX.out.size)).mono hb.size)⟩
      · go_wp2_with fail
        go_ret
        refine ⟨?_, hb⟩
        rw [hall.out, List.drop_eq_nil_of_le (by omega), List.drop_eq_nil_of_le (by rw [← E3.out]; omega)]
        rfl
  · have HS := Lib.hid (sameSL_len (sameS d) args brgs e3)
    have e4 : ((args.length : Int) == (brgs.length : Int)) = false := beq_eq_false_iff_ne.2 (by omega)
    clear e3
    go_enter Tryd.func64, Tryd.ntmps64
    go_wp2_with fail
    go_ret
    exact ⟨by rw [HS.out]; rfl, Below.refl _ _⟩
set_option maxRecDepth 100000 in
theorem codesame_block (d : Nat) (ih : SameC d) (args brgs : List St) (A B : Option Addr) (c c' lo hi lo' hi' : Nat) (w : World) (hk : SKids w lo hi d A args) (hk' : SKids w lo' hi' d B brgs) (hhi : hi ≤ w.heap.size) (hhi' : hi' ≤ w.heap.size) (q4 : args.length ≤ 9223372036854775807) (p4 : brgs.length ≤ 9223372036854775807) :
    Calls Tryd.prog 56 #[.slice A args.length c, .slice B brgs.length c'] w fun r w' => r = .returned (.bool (sameSL (sameS d) args brgs)) ∧ Below w.heap.size w w' := by
  have HE := Lib.hid (eqs_any d ih args brgs A B c c' lo hi lo' hi' w hk hk' hhi hhi' q4 p4)
  obtain ⟨bv, hbv⟩ : ∃ bv, bv = sameSL (sameS d) args brgs := ⟨_, rfl⟩
  rw [← hbv] at HE ⊢
  clear hbv ih hk hk'
  go_enter Tryd.func56, Tryd.ntmps56
  go_wp2_with fail
  refine HE.out.mono ?_
  rintro r w5 ⟨rfl, b5⟩
  go_wp2_with fail
  go_ret
  exact ⟨rfl, b5⟩
end Go.Proofs.YtnkdaehmdcpafaaDoor
