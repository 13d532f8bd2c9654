/-
  PACKAGE delta (layer 14), several texts in one: Dlg, Dlh, Dli, Dlj, Dlk. Conditions: as they stand.
-/
import Derived.Test.YteigglhhnemngaaGreatDoorDlf
import Derived.Deep.WholeRow
import Derived.Laws.CopyOwn
import Derived.Deep.CutBlock
import Derived.Deep.DeepCutAuto
namespace Go.Proofs.YteigglhhnemngaaGreatDoor
set_option maxRecDepth 100000
open Go.RowKit Go.Deep
set_option linter.unusedVariables false
set_option linter.unusedSimpArgs false
section
variable {σ : Type}
def partP (q : Cd) (num : σ → Int → Int → Int → Int × σ) (e : Ev) (s : σ) : Ev × σ :=
  if e.kd = 1 then beginP q num e s else if e.kd = 2 then lookP q num e s else if e.kd = 3 ∨ e.kd = 8 then valueP q num e s else
  if e.kd = 4 ∨ e.kd = 6 ∨ e.kd = 9 ∨ e.kd = 11 then stripeP q num e s else if e.kd = 5 then bumpP q num e s else if e.kd = 7 then commitP q num e s else
  if e.kd = 10 then abortP q num e s else (e, s)
def partOk (q : Cd) (num : σ → Int → Int → Int → Int × σ) (ok : σ → Int → Int → Int → Prop) (e : Ev) (s : σ) : Prop :=
  if e.kd = 1 then ok s (u64 e.tx) 0 5 ∧ ok (txP num e s).2 (u64 (e.v - q.clk)) 0 (1099511627776 - q.clk) else
  if e.kd = 2 then ok s (u64 e.pl) 0 (q.S - 1) ∧ ok (stripeP q num e s).2 (u64 (q.bg e.th.toNat - e.v)) 0 (q.bg e.th.toNat) else
  if e.kd = 3 ∨ e.kd = 8 then ok s (u64 e.pl) 0 (q.V - 1) ∧ ok (varP q num e s).2 (zigV (i64w (e.x - q.xs (varP q num e s).1.pl.toNat))) 0 18446744073709551615 else
  if e.kd = 4 ∨ e.kd = 6 ∨ e.kd = 9 ∨ e.kd = 11 then ok s (u64 e.pl) 0 (q.S - 1) else
  if e.kd = 5 then ok s (u64 (e.v - q.clk)) 1 (1099511627776 - q.clk) else
  if e.kd = 7 then ok s (u64 (min e.v 1)) 0 (min (q.bp e.th.toNat) 1) else
  if e.kd = 10 then ok s (u64 (e.why - 1)) 0 5 ∧ ((whyP num e s).1.why ≠ 6 → ok (whyP num e s).2 (u64 e.pl) 0 (q.S - 1)) else True
def passP (q : Cd) (num : σ → Int → Int → Int → Int × σ) (e : Ev) (s : σ) : Ev × σ := partP q num (whoP q num e s).1 (whoP q num e s).2
end
section
variable {σ : Type} {k : Nat} {P : Addr} {gF ge gc : Nat} {I : σ → World → Prop} {num : σ → Int → Int → Int → Int × σ} {ok : σ → Int → Int → Int → Prop}
def partsT : Array Value := #[.nilFunc, .func (.func 91) #[] #[], .func (.func 92) #[] #[], .func (.func 93) #[] #[], .func (.func 94) #[] #[], .func (.func 95) #[] #[], .func (.func 94) #[] #[], .func (.func 96) #[] #[], .func (.func 93) #[] #[], .func (.func 94) #[] #[], .func (.func 97) #[] #[], .func (.func 94) #[] #[], .func (.func 98) #[] #[], .func (.func 98) #[] #[]]
set_option maxHeartbeats 4000000 in
theorem pass_any (N : NumC k P gF ge gc I num ok) (q : Cd) (hq : CdOk q) (e : Ev) (s : σ) (w : World) (ok' : EvOk e) (he : EvO w ge e) (hcd : CodAt w gc q) (hI : I s w) (hth : 0 ≤ e.th ∧ e.th < q.T) (hv : -4611686018427387904 ≤ e.v ∧ e.v ≤ 4611686018427387904) (ho : ok s (u64 (whoN q e)) 0 (13 * q.T - 1)) (ho2 : partOk q num ok (whoP q num e s).1 (whoP q num e s).2) :
    Calls Tryz.prog 55 #[.pointer (some ⟨gc, 0, none⟩), .pointer (some ⟨ge, 0, none⟩), .func (.func k) #[] #[.pointer (some P)]] w (PassP gF ge I w (passP q num e s)) := by
  have HW := who_any N q hq e s w ok' he hcd hI hth ho
  have hz := N.le _ _ _ _ ho
  have T0 := hq.T0
  have T1 := hq.T1
  have l0 := hq.l0
  have hd := div13 hz.1 hz.2 T0
  have hm := modT (z := q.last + (num s (u64 (whoN q e)) 0 (13 * q.T - 1)).1) (T := q.T) (by omega) T0
  clear ho hz
  unfold passP
  obtain ⟨e1, h1⟩ : ∃ e1, (whoP q num e s).1 = e1 := ⟨_, rfl⟩
  obtain ⟨s1, h2⟩ : ∃ s1, (whoP q num e s).2 = s1 := ⟨_, rfl⟩
  have hW : whoP q num e s = (e1, s1) := by rw [← h1, ← h2]
  rw [hW] at HW ho2 ⊢
  simp only at ho2 ⊢
  have hk : 1 ≤ e1.kd ∧ e1.kd ≤ 13 := by rw [← h1]; simp only [whoP]; omega
  have ht : 0 ≤ e1.th ∧ e1.th < 6 := by rw [← h1]; simp only [whoP]; omega
  have hv1 : -4611686018427387904 ≤ e1.v ∧ e1.v ≤ 4611686018427387904 := by rw [← h1]; exact hv
  have ok1 : EvOk e1 := ⟨by omega, by omega, by rw [← h1]; exact ok'.w0, by rw [← h1]; exact ok'.w1, by omega, by omega, by rw [← h1]; exact ok'.x0, by rw [← h1]; exact ok'.x1, by rw [← h1]; exact ok'.p0, by rw [← h1]; exact ok'.p1, by omega, by omega, by rw [← h1]; exact ok'.y0, by rw [← h1]; exact ok'.y1⟩
  clear h1 h2 hW hm hd ok' hv hth
  have HH := Lib.hid HW
  have HN := Lib.hid N
  have HC0 := Lib.hid hcd
  have HQ := Lib.hid hq
  have HO := Lib.hid ho2
  have HV := Lib.hid hv1
  have HT := Lib.hid ht
  have HK1 := Lib.hid ok1
  generalize hR : partP q num e1 s1 = R
  have HR := Lib.hid hR
  clear hR HW N hcd hq ho2 hv1 ht ok1 he hI T0 T1 l0
  go_enter Tryz.func55, Tryz.ntmps55
  go_wp2_with fail
  refine HH.out.mono ?_
  rintro _ w1 ⟨rfl, g1, g2, g3⟩
  have C1 := Lib.hid (HN.out.cod HC0.out g3)
  have E1 := Lib.hid g1
  have I1 := Lib.hid g2
  have K1 := Lib.hid g3
  clear g1 g2 g3
  have hb : Below w1.heap.size w1 (w1.alloc (.cells partsT 168)) := (Below.refl _ _).alloc (Nat.le_refl _) _
  have hcell : Hid (∀ j, (w1.alloc (.cells partsT 168)).cell? ⟨w1.heap.size, j, none⟩ = partsT[j]?) := fun j => World.cell?_alloc_mark w1 _ _ (0, 0) j
  unfold partsT at hcell hb
  obtain ⟨w2, hw2⟩ : ∃ w2, w1.alloc (.cells partsT 168) = w2 := ⟨_, rfl⟩
  unfold partsT at hw2
  rw [hw2] at hb hcell
  have HW2 := Lib.hid hw2
  clear hw2
  have f0 : w2.cell? ⟨ge, 0, none⟩ = some (.int .u8 e1.kd) := (E1.out.below hb).c0
  have C2 := Lib.hid (C1.out.below hb)
  have E2 := Lib.hid (E1.out.below hb)
  have I2 := Lib.hid (HN.out.stay _ _ _ I1.out (kp_below hb))
  have K2 := Lib.hid (K1.out.two (kp_below hb : Kp gF (some ge) w1 w2))
  clear hb C1 E1 I1 K1 HH HC0
  have hcs : e1.kd = 1 ∨ e1.kd = 2 ∨ e1.kd = 3 ∨ e1.kd = 4 ∨ e1.kd = 5 ∨ e1.kd = 6 ∨ e1.kd = 7 ∨ e1.kd = 8 ∨ e1.kd = 9 ∨ e1.kd = 10 ∨ e1.kd = 11 ∨ e1.kd = 12 ∨ e1.kd = 13 := by omega
  clear hk
  have HKK := Lib.hid hcs
  clear hcs
  obtain ⟨kk, hkk⟩ : ∃ kk, e1.kd = kk := ⟨_, rfl⟩
  have HE := Lib.hid hkk
  rw [hkk] at f0
  have hcs := HKK.out
  rw [hkk] at hcs
  clear hkk HKK
  rcases hcs with rfl | rfl | rfl | rfl | rfl | rfl | rfl | rfl | rfl | rfl | rfl | rfl | rfl
  · have hR : beginP q num e1 s1 = R := by rw [← HR.out]; unfold partP; simp only [HE.out]; rfl
    have hO := HO.out
    unfold partOk at hO
    simp only [HE.out] at hO
    have hc : w2.cell? ⟨w1.heap.size, 1, none⟩ = some (.func (.func 91) #[] #[]) := hcell.out 1
    have HCL := begin_any HN.out q HQ.out e1 s1 w2 HK1.out E2.out C2.out I2.out HV.out hO.1 hO.2
    rw [hR] at HCL
    have HL := Lib.hid HCL
    clear HCL hO hR
    go_wp2_with (first
      | (refine wpList_store_row rfl 168 _ _ rfl w1.heap.size _ rfl rfl 168 _ (heap_alloc_new w1 _) (by kernel_rfl) (by kernel_rfl) (by kernel_rfl) ?_; rw [World.setRow_alloc_new, HW2.out])
      | fail)
    refine HL.out.mono ?_
    rintro _ w3 ⟨rfl, x1, x2, x3⟩
    go_wp2_with fail
    go_end0
    exact ⟨rfl, x1, x2, K2.out.two x3⟩
  · have hR : lookP q num e1 s1 = R := by rw [← HR.out]; unfold partP; simp only [HE.out]; rfl
    have hO := HO.out
    unfold partOk at hO
    simp only [HE.out] at hO
    have hc : w2.cell? ⟨w1.heap.size, 2, none⟩ = some (.func (.func 92) #[] #[]) := hcell.out 2
    have HCL := look_any HN.out q HQ.out e1 s1 w2 HK1.out E2.out C2.out I2.out HV.out HT.out hO.1 hO.2
    rw [hR] at HCL
    have HL := Lib.hid HCL
    clear HCL hO hR
    go_wp2_with (first
      | (refine wpList_store_row rfl 168 _ _ rfl w1.heap.size _ rfl rfl 168 _ (heap_alloc_new w1 _) (by kernel_rfl) (by kernel_rfl) (by kernel_rfl) ?_; rw [World.setRow_alloc_new, HW2.out])
      | fail)
    refine HL.out.mono ?_
    rintro _ w3 ⟨rfl, x1, x2, x3⟩
    go_wp2_with fail
    go_end0
    exact ⟨rfl, x1, x2, K2.out.two x3⟩
  · have hR : valueP q num e1 s1 = R := by rw [← HR.out]; unfold partP; simp only [HE.out]; rfl
    have hO := HO.out
    unfold partOk at hO
    simp only [HE.out] at hO
    have hc : w2.cell? ⟨w1.heap.size, 3, none⟩ = some (.func (.func 93) #[] #[]) := hcell.out 3
    have HCL := value_any HN.out q HQ.out e1 s1 w2 HK1.out E2.out C2.out I2.out hO.1 hO.2
    rw [hR] at HCL
    have HL := Lib.hid HCL
    clear HCL hO hR
    go_wp2_with (first
      | (refine wpList_store_row rfl 168 _ _ rfl w1.heap.size _ rfl rfl 168 _ (heap_alloc_new w1 _) (by kernel_rfl) (by kernel_rfl) (by kernel_rfl) ?_; rw [World.setRow_alloc_new, HW2.out])
      | fail)
    refine HL.out.mono ?_
    rintro _ w3 ⟨rfl, x1, x2, x3⟩
    go_wp2_with fail
    go_end0
    exact ⟨rfl, x1, x2, K2.out.two x3⟩
  · have hR : stripeP q num e1 s1 = R := by rw [← HR.out]; unfold partP; simp only [HE.out]; rfl
    have hO := HO.out
    unfold partOk at hO
    simp only [HE.out] at hO
    have hc : w2.cell? ⟨w1.heap.size, 4, none⟩ = some (.func (.func 94) #[] #[]) := hcell.out 4
    have HCL := stripe_any HN.out q HQ.out e1 s1 w2 HK1.out E2.out C2.out I2.out hO
    rw [hR] at HCL
    have HL := Lib.hid HCL
    clear HCL hO hR
    go_wp2_with (first
      | (refine wpList_store_row rfl 168 _ _ rfl w1.heap.size _ rfl rfl 168 _ (heap_alloc_new w1 _) (by kernel_rfl) (by kernel_rfl) (by kernel_rfl) ?_; rw [World.setRow_alloc_new, HW2.out])
      | fail)
    refine HL.out.mono ?_
    rintro _ w3 ⟨rfl, x1, x2, x3⟩
    go_wp2_with fail
    go_end0
    exact ⟨rfl, x1, x2, K2.out.two x3⟩
  · have hR : bumpP q num e1 s1 = R := by rw [← HR.out]; unfold partP; simp only [HE.out]; rfl
    have hO := HO.out
    unfold partOk at hO
    simp only [HE.out] at hO
    have hc : w2.cell? ⟨w1.heap.size, 5, none⟩ = some (.func (.func 95) #[] #[]) := hcell.out 5
    have HCL := bump_any HN.out q HQ.out e1 s1 w2 HK1.out E2.out C2.out I2.out HV.out hO
    rw [hR] at HCL
    have HL := Lib.hid HCL
    clear HCL hO hR
    go_wp2_with (first
      | (refine wpList_store_row rfl 168 _ _ rfl w1.heap.size _ rfl rfl 168 _ (heap_alloc_new w1 _) (by kernel_rfl) (by kernel_rfl) (by kernel_rfl) ?_; rw [World.setRow_alloc_new, HW2.out])
      | fail)
    refine HL.out.mono ?_
    rintro _ w3 ⟨rfl, x1, x2, x3⟩
    go_wp2_with fail
    go_end0
    exact ⟨rfl, x1, x2, K2.out.two x3⟩
  · have hR : stripeP q num e1 s1 = R := by rw [← HR.out]; unfold partP; simp only [HE.out]; rfl
    have hO := HO.out
    unfold partOk at hO
    simp only [HE.out] at hO
    have hc : w2.cell? ⟨w1.heap.size, 6, none⟩ = some (.func (.func 94) #[] #[]) := hcell.out 6
    have HCL := stripe_any HN.out q HQ.out e1 s1 w2 HK1.out E2.out C2.out I2.out hO
    rw [hR] at HCL
    have HL := Lib.hid HCL
    clear HCL hO hR
    go_wp2_with (first
      | (refine wpList_store_row rfl 168 _ _ rfl w1.heap.size _ rfl rfl 168 _ (heap_alloc_new w1 _) (by kernel_rfl) (by kernel_rfl) (by kernel_rfl) ?_; rw [World.setRow_alloc_new, HW2.out])
      | fail)
    refine HL.out.mono ?_
    rintro _ w3 ⟨rfl, x1, x2, x3⟩
    go_wp2_with fail
    go_end0
    exact ⟨rfl, x1, x2, K2.out.two x3⟩
  · have hR : commitP q num e1 s1 = R := by rw [← HR.out]; unfold partP; simp only [HE.out]; rfl
    have hO := HO.out
    unfold partOk at hO
    simp only [HE.out] at hO
    have hc : w2.cell? ⟨w1.heap.size, 7, none⟩ = some (.func (.func 96) #[] #[]) := hcell.out 7
    have HCL := commit_any HN.out q HQ.out e1 s1 w2 HK1.out E2.out C2.out I2.out HT.out hO
    rw [hR] at HCL
    have HL := Lib.hid HCL
    clear HCL hO hR
    go_wp2_with (first
      | (refine wpList_store_row rfl 168 _ _ rfl w1.heap.size _ rfl rfl 168 _ (heap_alloc_new w1 _) (by kernel_rfl) (by kernel_rfl) (by kernel_rfl) ?_; rw [World.setRow_alloc_new, HW2.out])
      | fail)
    refine HL.out.mono ?_
    rintro _ w3 ⟨rfl, x1, x2, x3⟩
    go_wp2_with fail
    go_end0
    exact ⟨rfl, x1, x2, K2.out.two x3⟩
  · have hR : valueP q num e1 s1 = R := by rw [← HR.out]; unfold partP; simp only [HE.out]; rfl
    have hO := HO.out
    unfold partOk at hO
    simp only [HE.out] at hO
    have hc : w2.cell? ⟨w1.heap.size, 8, none⟩ = some (.func (.func 93) #[] #[]) := hcell.out 8
    have HCL := value_any HN.out q HQ.out e1 s1 w2 HK1.out E2.out C2.out I2.out hO.1 hO.2
    rw [hR] at HCL
    have HL := Lib.hid HCL
    clear HCL hO hR
    go_wp2_with (first
      | (refine wpList_store_row rfl 168 _ _ rfl w1.heap.size _ rfl rfl 168 _ (heap_alloc_new w1 _) (by kernel_rfl) (by kernel_rfl) (by kernel_rfl) ?_; rw [World.setRow_alloc_new, HW2.out])
      | fail)
    refine HL.out.mono ?_
    rintro _ w3 ⟨rfl, x1, x2, x3⟩
    go_wp2_with fail
    go_end0
    exact ⟨rfl, x1, x2, K2.out.two x3⟩
  · have hR : stripeP q num e1 s1 = R := by rw [← HR.out]; unfold partP; simp only [HE.out]; rfl
    have hO := HO.out
    unfold partOk at hO
    simp only [HE.out] at hO
    have hc : w2.cell? ⟨w1.heap.size, 9, none⟩ = some (.func (.func 94) #[] #[]) := hcell.out 9
    have HCL := stripe_any HN.out q HQ.out e1 s1 w2 HK1.out E2.out C2.out I2.out hO
    rw [hR] at HCL
    have HL := Lib.hid HCL
    clear HCL hO hR
    go_wp2_with (first
      | (refine wpList_store_row rfl 168 _ _ rfl w1.heap.size _ rfl rfl 168 _ (heap_alloc_new w1 _) (by kernel_rfl) (by kernel_rfl) (by kernel_rfl) ?_; rw [World.setRow_alloc_new, HW2.out])
      | fail)
    refine HL.out.mono ?_
    rintro _ w3 ⟨rfl, x1, x2, x3⟩
    go_wp2_with fail
    go_end0
    exact ⟨rfl, x1, x2, K2.out.two x3⟩
  · have hR : abortP q num e1 s1 = R := by rw [← HR.out]; unfold partP; simp only [HE.out]; rfl
    have hO := HO.out
    unfold partOk at hO
    simp only [HE.out] at hO
    have hc : w2.cell? ⟨w1.heap.size, 10, none⟩ = some (.func (.func 97) #[] #[]) := hcell.out 10
    have HCL := abort_any HN.out q HQ.out e1 s1 w2 HK1.out E2.out C2.out I2.out hO.1 hO.2
    rw [hR] at HCL
    have HL := Lib.hid HCL
    clear HCL hO hR
    go_wp2_with (first
      | (refine wpList_store_row rfl 168 _ _ rfl w1.heap.size _ rfl rfl 168 _ (heap_alloc_new w1 _) (by kernel_rfl) (by kernel_rfl) (by kernel_rfl) ?_; rw [World.setRow_alloc_new, HW2.out])
      | fail)
    refine HL.out.mono ?_
    rintro _ w3 ⟨rfl, x1, x2, x3⟩
    go_wp2_with fail
    go_end0
    exact ⟨rfl, x1, x2, K2.out.two x3⟩
  · have hR : stripeP q num e1 s1 = R := by rw [← HR.out]; unfold partP; simp only [HE.out]; rfl
    have hO := HO.out
    unfold partOk at hO
    simp only [HE.out] at hO
    have hc : w2.cell? ⟨w1.heap.size, 11, none⟩ = some (.func (.func 94) #[] #[]) := hcell.out 11
    have HCL := stripe_any HN.out q HQ.out e1 s1 w2 HK1.out E2.out C2.out I2.out hO
    rw [hR] at HCL
    have HL := Lib.hid HCL
    clear HCL hO hR
    go_wp2_with (first
      | (refine wpList_store_row rfl 168 _ _ rfl w1.heap.size _ rfl rfl 168 _ (heap_alloc_new w1 _) (by kernel_rfl) (by kernel_rfl) (by kernel_rfl) ?_; rw [World.setRow_alloc_new, HW2.out])
      | fail)
    refine HL.out.mono ?_
    rintro _ w3 ⟨rfl, x1, x2, x3⟩
    go_wp2_with fail
    go_end0
    exact ⟨rfl, x1, x2, K2.out.two x3⟩
  · have hR : (e1, s1) = R := by rw [← HR.out]; unfold partP; simp only [HE.out]; rfl
    have hO := HO.out
    unfold partOk at hO
    simp only [HE.out] at hO
    have hc : w2.cell? ⟨w1.heap.size, 12, none⟩ = some (.func (.func 98) #[] #[]) := hcell.out 12
    have HCL := nothing_any HN.out q HQ.out e1 s1 w2 HK1.out E2.out C2.out I2.out
    rw [hR] at HCL
    have HL := Lib.hid HCL
    clear HCL hO hR
    go_wp2_with (first
      | (refine wpList_store_row rfl 168 _ _ rfl w1.heap.size _ rfl rfl 168 _ (heap_alloc_new w1 _) (by kernel_rfl) (by kernel_rfl) (by kernel_rfl) ?_; rw [World.setRow_alloc_new, HW2.out])
      | fail)
    refine HL.out.mono ?_
    rintro _ w3 ⟨rfl, x1, x2, x3⟩
    go_wp2_with fail
    go_end0
    exact ⟨rfl, x1, x2, K2.out.two x3⟩
  · have hR : (e1, s1) = R := by rw [← HR.out]; unfold partP; simp only [HE.out]; rfl
    have hO := HO.out
    unfold partOk at hO
    simp only [HE.out] at hO
    have hc : w2.cell? ⟨w1.heap.size, 13, none⟩ = some (.func (.func 98) #[] #[]) := hcell.out 13
    have HCL := nothing_any HN.out q HQ.out e1 s1 w2 HK1.out E2.out C2.out I2.out
    rw [hR] at HCL
    have HL := Lib.hid HCL
    clear HCL hO hR
    go_wp2_with (first
      | (refine wpList_store_row rfl 168 _ _ rfl w1.heap.size _ rfl rfl 168 _ (heap_alloc_new w1 _) (by kernel_rfl) (by kernel_rfl) (by kernel_rfl) ?_; rw [World.setRow_alloc_new, HW2.out])
      | fail)
    refine HL.out.mono ?_
    rintro _ w3 ⟨rfl, x1, x2, x3⟩
    go_wp2_with fail
    go_end0
    exact ⟨rfl, x1, x2, K2.out.two x3⟩
end
end Go.Proofs.YteigglhhnemngaaGreatDoor
namespace Go.Proofs.YteigglhhnemngaaGreatDoor
set_option maxRecDepth 100000
open Go.RowKit Go.Deep
set_option linter.unusedVariables false
set_option linter.unusedSimpArgs false
section
variable {a : Act} {w : World} {K : Act → World → Prop} {Q : Exit → Act → World → Prop} {o : Oper}
theorem u_loadE (x : Nat) {g q : Nat} {e : Ev} (ho : o.op = .load 50 (.tmp x)) (hx : a.tmps[x]?.getD undef = .pointer (some ⟨g, q, none⟩)) (hg : q = 0 ∧ EvO w g e) (hK : K (a.put o.dst (evV e)) w) : Oper.wp Tryz.prog o a w K Q := by
  obtain ⟨rfl, hg⟩ := hg
  exact wp_load_row _ _ ho g (by simpa [Act.eval] using hx) 50 (evC e) (0, 0) _ hg Tryz.underlying50 rfl (by kernel_rfl) hK
theorem u_loadT (x : Nat) {g q : Nat} {n m : Int} (ho : o.op = .load 98 (.tmp x)) (hx : a.tmps[x]?.getD undef = .pointer (some ⟨g, q, none⟩)) (hc : w.cell? ⟨g, q, none⟩ = some (.int .i64 n) ∧ w.cell? ⟨g, q + 1, none⟩ = some (.int .i64 m)) (hK : K (a.put o.dst (.agg #[.int .i64 n, .int .i64 m])) w) : Oper.wp Tryz.prog o a w K Q := by
  obtain ⟨dst, op, type, pos, after, guard⟩ := o
  have ho' : op = _ := ho
  subst ho'
  clear ho
  obtain ⟨c0, c1⟩ := hc
  go_simp
  exact hK
theorem u_loads (x : Nat) {g q : Nat} {s : ByteArray} (ho : o.op = .load 9 (.tmp x)) (hx : a.tmps[x]?.getD undef = .pointer (some ⟨g, q, none⟩)) (hc : w.cell? ⟨g, q, none⟩ = some (.string s)) (hK : K (a.put o.dst (.string s)) w) : Oper.wp Tryz.prog o a w K Q := by
  obtain ⟨dst, op, type, pos, after, guard⟩ := o
  have ho' : op = _ := ho
  subst ho'
  clear ho
  go_simp
  exact hK
theorem u_add_9 (x y : Nat) {s t : ByteArray} (ho : o.op = .binOp .add 9 (.tmp x) (.tmp y) 9) (hx : a.tmps[x]?.getD undef = .string s) (hy : a.tmps[y]?.getD undef = .string t) (hs : s.size ≤ 1000 ∧ t.size ≤ 1000) (hK : K (a.put o.dst (.string (s ++ t))) w) : Oper.wp Tryz.prog o a w K Q := by
  obtain ⟨dst, op, type, pos, after, guard⟩ := o
  have ho' : op = _ := ho
  subst ho'
  clear ho
  obtain ⟨h1, h2⟩ := hs
  have h4 : ¬ 9223372036854775807 < s.size + t.size := by omega
  go_simp
  exact hK
theorem u_stores (x y : Nat) {g j : Nat} {n : ByteArray} {v : Value} (ho : o.op = .store 9 (.tmp x) (.tmp y)) (hx : a.tmps[x]?.getD undef = .pointer (some ⟨g, j, none⟩)) (hy : a.tmps[y]?.getD undef = .string n) (hc : w.cell? ⟨g, j, none⟩ = some v) (hf : w.frozen? ⟨g, j, none⟩ = false) (hK : K (a.put o.dst undef) (w.setCell ⟨g, j, none⟩ (.string n))) : Oper.wp Tryz.prog o a w K Q := by
  obtain ⟨dst, op, type, pos, after, guard⟩ := o
  have ho' : op = _ := ho
  subst ho'
  clear ho
  go_simp
  exact hK
theorem u_allocT (ho : o.op = .alloc 98) (hK : K (a.put o.dst (.pointer (some ⟨w.heap.size, 0, none⟩))) (w.alloc (.cells #[.int .i64 0, .int .i64 0] 98))) : Oper.wp Tryz.prog o a w K Q := by
  obtain ⟨dst, op, type, pos, after, guard⟩ := o
  have ho' : op = _ := ho
  subst ho'
  clear ho
  go_simp
  exact hK
theorem u_notT (x : Nat) (ho : o.op = .unOp .not 4 (.tmp x)) (hx : a.tmps[x]?.getD undef = .bool true) (hK : K (a.put o.dst (.bool false)) w) : Oper.wp Tryz.prog o a w K Q := by
  obtain ⟨dst, op, type, pos, after, guard⟩ := o
  have ho' : op = _ := ho
  subst ho'
  clear ho
  go_simp
  exact hK
theorem u_notF (x : Nat) (ho : o.op = .unOp .not 4 (.tmp x)) (hx : a.tmps[x]?.getD undef = .bool false) (hK : K (a.put o.dst (.bool true)) w) : Oper.wp Tryz.prog o a w K Q := by
  obtain ⟨dst, op, type, pos, after, guard⟩ := o
  have ho' : op = _ := ho
  subst ho'
  clear ho
  go_simp
  exact hK
end
def knowQ (q : Cd) (e : Ev) : Cd where
  T := q.T
  V := q.V
  S := q.S
  last := e.th
  clk := if e.kd = 1 ∨ e.kd = 5 then e.v else q.clk
  bg := if e.kd = 1 then put q.bg e.th.toNat e.v else q.bg
  bp := if e.kd = 5 then put q.bp e.th.toNat e.v else q.bp
  xs := if e.kd = 3 ∨ e.kd = 8 then put q.xs e.pl.toNat e.x else q.xs
def mayT (q : Cd) (e : Ev) : Bool := mayB e q.T q.V q.S && (if e.kd = 1 then decide (q.clk ≤ e.v) else if e.kd = 2 then decide (e.v ≤ q.bg e.th.toNat) else if e.kd = 5 then decide (q.clk < e.v) else if e.kd = 7 then (e.v == 0 || e.v == q.bp e.th.toNat) else true)
section
variable {q : Cd}
theorem put_last (x : Int) (j : Nat) (hj : j < 49) : put (cellD q) 3 x j = cellD { q with last := x } j := by
  unfold put
  by_cases h : j = 3
  · subst h
    rfl
  · rw [if_neg h]
    unfold cellD
    simp only [h, if_false]
theorem put_clk (x : Int) (j : Nat) (hj : j < 49) : put (cellD q) 4 x j = cellD { q with clk := x } j := by
  unfold put
  by_cases h : j = 4
  · subst h
    rfl
  · rw [if_neg h]
    unfold cellD
    simp only [h, if_false]
theorem put_bg {t : Nat} (ht : t < 6) (x : Int) (j : Nat) (hj : j < 49) : put (cellD q) (5 + t * 2) x j = cellD { q with bg := put q.bg t x } j := by
  by_cases h : j = 5 + t * 2
  · subst h
    rw [cell_bg _ ht]
    simp [put]
  · have e : put (cellD q) (5 + t * 2) x j = cellD q j := by simp [put, h]
    rw [e]
    unfold cellD
    by_cases h5 : j < 5
    · have : j = 0 ∨ j = 1 ∨ j = 2 ∨ j = 3 ∨ j = 4 := by omega
      rcases this with rfl | rfl | rfl | rfl | rfl <;> rfl
    · by_cases h2 : (j - 5) % 2 = 0
      · have h3 : (j - 5) / 2 ≠ t := by omega
        simp only [put, h3, if_false]
      · simp only [h2, if_false]
theorem put_bp {t : Nat} (ht : t < 6) (x : Int) (j : Nat) (hj : j < 49) : put (cellD q) (5 + t * 2 + 1) x j = cellD { q with bp := put q.bp t x } j := by
  by_cases h : j = 5 + t * 2 + 1
  · subst h
    rw [cell_bp _ ht]
    simp [put]
  · have e : put (cellD q) (5 + t * 2 + 1) x j = cellD q j := by simp [put, h]
    rw [e]
    unfold cellD
    by_cases h5 : j < 5
    · have : j = 0 ∨ j = 1 ∨ j = 2 ∨ j = 3 ∨ j = 4 := by omega
      rcases this with rfl | rfl | rfl | rfl | rfl <;> rfl
    · by_cases h2 : (j - 5) % 2 = 0
      · simp only [h2, if_true]
      · have h3 : (j - 5) / 2 ≠ t := by omega
        simp only [put, h3, if_false]
theorem put_xs {v : Nat} (hv : v < 32) (x : Int) (j : Nat) (hj : j < 49) : put (cellD q) (17 + v) x j = cellD { q with xs := put q.xs v x } j := by
  by_cases h : j = 17 + v
  · subst h
    rw [cell_xs]
    simp [put]
  · have e : put (cellD q) (17 + v) x j = cellD q j := by simp [put, h]
    rw [e]
    unfold cellD
    by_cases h5 : j < 17
    · by_cases h6 : j < 5
      · have : j = 0 ∨ j = 1 ∨ j = 2 ∨ j = 3 ∨ j = 4 := by omega
        rcases this with rfl | rfl | rfl | rfl | rfl <;> rfl
      · simp only [h5, if_true]
    · have h3 : j - 17 ≠ v := by omega
      simp only [put, h3, if_false]
end
noncomputable def rgMay1t_ops : Array Oper := opsW Tryz.f54 1
def rgMay1t_D : List (Option Nat) := [some 6, some 7, some 8, some 9, some 10, some 11, some 12, some 13, some 14, some 15, some 16, some 17, some 18, some 19, some 20, some 21, some 22, some 23]
set_option maxRecDepth 100000 in
set_option maxHeartbeats 4000000 in
theorem rgMay1t {id : Nat} {ops : Array Oper} (hops : ops = rgMay1t_ops) (T0 : Array Value) (hsz : 24 ≤ T0.size) (W : World) (gc ge : Nat) (q : Cd) (e : Ev) (he : EvO W ge e) (hcd : CodAt W gc q) (HC : ∀ w, Below W.heap.size W w → Calls Tryz.prog 86 #[evV e, .int .i64 q.T, .int .i64 q.V, .int .i64 q.S] w fun r w' => r = .returned (.bool true) ∧ Below w.heap.size w w') (h0 : T0[0]? = some (.pointer (some ⟨gc, 0, none⟩))) (h3 : T0[3]? = some (.pointer (some ⟨ge, 0, none⟩))) {Q : Exit → Act → World → Prop}
    (hend : ∀ w : World, Below W.heap.size W w → Q .normal ⟨putAll T0 [6, 7, 8, 9, 10, 11, 12, 13, 14, 15, 16, 17, 18, 19, 20, 21, 22, 23] [evV e, .pointer (some ⟨gc, 0, none⟩), .pointer (some ⟨gc, 0, none⟩), .pointer (some ⟨gc, 0, none⟩), .pointer (some ⟨gc, 0, none⟩), .int .i64 q.T, .pointer (some ⟨gc, 0, none⟩), .pointer (some ⟨gc, 0, none⟩), .pointer (some ⟨gc, 0, none⟩), .pointer (some ⟨gc, 1, none⟩), .int .i64 q.V, .pointer (some ⟨gc, 0, none⟩), .pointer (some ⟨gc, 0, none⟩), .pointer (some ⟨gc, 0, none⟩), .pointer (some ⟨gc, 2, none⟩), .int .i64 q.S, .bool true, .bool false], []⟩ w) : (Code.region id ops true).wp Tryz.prog Q ⟨T0, []⟩ W := by
  subst hops
  have hos : rgMay1t_ops.size = 18 := by kernel_rfl
  have hga : (List.range 18).all (fun i => match rgMay1t_ops[i]? with | some o => o.guard == ([none, none, none, none, none, none, none, none, none, none, none, none, none, none, none, none, none, none] : List (Option (Nat × Bool))).getD i none | none => false) = true := by kernel_rfl
  have hds : ((pairsS rgMay1t_D ([evV e, .pointer (some ⟨gc, 0, none⟩), .pointer (some ⟨gc, 0, none⟩), .pointer (some ⟨gc, 0, none⟩), .pointer (some ⟨gc, 0, none⟩), .int .i64 q.T, .pointer (some ⟨gc, 0, none⟩), .pointer (some ⟨gc, 0, none⟩), .pointer (some ⟨gc, 0, none⟩), .pointer (some ⟨gc, 1, none⟩), .int .i64 q.V, .pointer (some ⟨gc, 0, none⟩), .pointer (some ⟨gc, 0, none⟩), .pointer (some ⟨gc, 0, none⟩), .pointer (some ⟨gc, 2, none⟩), .int .i64 q.S, .bool true, .bool false] : List Value)).map (·.1)) = [6, 7, 8, 9, 10, 11, 12, 13, 14, 15, 16, 17, 18, 19, 20, 21, 22, 23] := rfl
  refine wp_region_valsG ([evV e, .pointer (some ⟨gc, 0, none⟩), .pointer (some ⟨gc, 0, none⟩), .pointer (some ⟨gc, 0, none⟩), .pointer (some ⟨gc, 0, none⟩), .int .i64 q.T, .pointer (some ⟨gc, 0, none⟩), .pointer (some ⟨gc, 0, none⟩), .pointer (some ⟨gc, 0, none⟩), .pointer (some ⟨gc, 1, none⟩), .int .i64 q.V, .pointer (some ⟨gc, 0, none⟩), .pointer (some ⟨gc, 0, none⟩), .pointer (some ⟨gc, 0, none⟩), .pointer (some ⟨gc, 2, none⟩), .int .i64 q.S, .bool true, .bool false] : List Value) [true, true, true, true, true, true, true, true, true, true, true, true, true, true, true, true, true, true] rgMay1t_D (fun don w => Below W.heap.size W w) W T0 (by rw [hds]; decide) (fun x hx => ?_) (by kernel_rfl) (by kernel_rfl) (fun i o j want ho hg => ?_) (fun i hi hon => ?_) (fun i hi hon don w hM => ?_) ?_ ?_ ?_
  · rw [hds] at hx
    have hall : (([6, 7, 8, 9, 10, 11, 12, 13, 14, 15, 16, 17, 18, 19, 20, 21, 22, 23] : List Nat).all fun d => decide (d < 24)) = true := by decide
    have := List.all_eq_true.1 hall x hx
    simp only [decide_eq_true_eq] at this
    omega
  · have hi : i < 18 := by rw [← hos]; exact (Array.getElem?_eq_some_iff.1 ho).1
    have h1 := List.all_eq_true.1 hga i (by simpa using hi)
    rw [ho] at h1
    simp only [hg, beq_iff_eq] at h1
    match i, hi with
    | 0, _ => cases h1
    | 1, _ => cases h1
    | 2, _ => cases h1
    | 3, _ => cases h1
    | 4, _ => cases h1
    | 5, _ => cases h1
    | 6, _ => cases h1
    | 7, _ => cases h1
    | 8, _ => cases h1
    | 9, _ => cases h1
    | 10, _ => cases h1
    | 11, _ => cases h1
    | 12, _ => cases h1
    | 13, _ => cases h1
    | 14, _ => cases h1
    | 15, _ => cases h1
    | 16, _ => cases h1
    | 17, _ => cases h1
    | i + 18, h => exact absurd (show i + 18 < 18 from h) (by omega)
  · match i, hi with
    | 0, _ => cases hon
    | 1, _ => cases hon
    | 2, _ => cases hon
    | 3, _ => cases hon
    | 4, _ => cases hon
    | 5, _ => cases hon
    | 6, _ => cases hon
    | 7, _ => cases hon
    | 8, _ => cases hon
    | 9, _ => cases hon
    | 10, _ => cases hon
    | 11, _ => cases hon
    | 12, _ => cases hon
    | 13, _ => cases hon
    | 14, _ => cases hon
    | 15, _ => cases hon
    | 16, _ => cases hon
    | 17, _ => cases hon
    | i + 18, h => exact absurd (show i + 18 < 18 from h) (by omega)
  · match i, hi with
    | 0, _ => cases hon
    | 1, _ => cases hon
    | 2, _ => cases hon
    | 3, _ => cases hon
    | 4, _ => cases hon
    | 5, _ => cases hon
    | 6, _ => cases hon
    | 7, _ => cases hon
    | 8, _ => cases hon
    | 9, _ => cases hon
    | 10, _ => cases hon
    | 11, _ => cases hon
    | 12, _ => cases hon
    | 13, _ => cases hon
    | 14, _ => cases hon
    | 15, _ => cases hon
    | 16, _ => cases hon
    | 17, _ => cases hon
    | i + 18, h => exact absurd (show i + 18 < 18 from h) (by omega)
  · exact (Below.refl _ _).drew
  · intro i oo ho hi hon don a w hT hU hdi hM K hK
    rw [hds] at hT
    have hT0 : ∀ t v, t ∉ ([6, 7, 8, 9, 10, 11, 12, 13, 14, 15, 16, 17, 18, 19, 20, 21, 22, 23] : List Nat) → T0[t]? = some v → a.tmps[t]?.getD undef = v := fun t v ht hv => by rw [hT t ht, hv]; rfl
    match i, hi with
    | 0, _ => exact u_loadE 3 (opAtW ho (by kernel_rfl)) (hT0 3 _ (by decide) h3) (⟨rfl, he.below hM⟩) (hK w hM)
    | 1, _ => exact v_move 0 (opAtW ho (by kernel_rfl)) (hT0 0 _ (by decide) h0) (hK w hM)
    | 2, _ => exact u_nil 7 (opAtW ho (by kernel_rfl)) ((hU 1 (by kernel_rfl)).2 7 rfl) (hK w hM)
    | 3, _ => exact u_f78_0 8 (opAtW ho (by kernel_rfl)) ((hU 2 (by kernel_rfl)).2 8 rfl) (hK w hM)
    | 4, _ => exact u_f72_0 9 (opAtW ho (by kernel_rfl)) ((hU 3 (by kernel_rfl)).2 9 rfl) (hK w hM)
    | 5, _ => exact u_loadi 10 (opAtW ho (by kernel_rfl)) ((hU 4 (by kernel_rfl)).2 10 rfl) ((hcd.below hM).cT) (hK w hM)
    | 6, _ => exact v_move 0 (opAtW ho (by kernel_rfl)) (hT0 0 _ (by decide) h0) (hK w hM)
    | 7, _ => exact u_nil 12 (opAtW ho (by kernel_rfl)) ((hU 6 (by kernel_rfl)).2 12 rfl) (hK w hM)
    | 8, _ => exact u_f78_0 13 (opAtW ho (by kernel_rfl)) ((hU 7 (by kernel_rfl)).2 13 rfl) (hK w hM)
    | 9, _ => exact u_f72_1 14 (opAtW ho (by kernel_rfl)) ((hU 8 (by kernel_rfl)).2 14 rfl) (hK w hM)
    | 10, _ => exact u_loadi 15 (opAtW ho (by kernel_rfl)) ((hU 9 (by kernel_rfl)).2 15 rfl) ((hcd.below hM).cV) (hK w hM)
    | 11, _ => exact v_move 0 (opAtW ho (by kernel_rfl)) (hT0 0 _ (by decide) h0) (hK w hM)
    | 12, _ => exact u_nil 17 (opAtW ho (by kernel_rfl)) ((hU 11 (by kernel_rfl)).2 17 rfl) (hK w hM)
    | 13, _ => exact u_f78_0 18 (opAtW ho (by kernel_rfl)) ((hU 12 (by kernel_rfl)).2 18 rfl) (hK w hM)
    | 14, _ => exact u_f72_2 19 (opAtW ho (by kernel_rfl)) ((hU 13 (by kernel_rfl)).2 19 rfl) (hK w hM)
    | 15, _ => exact u_loadi 20 (opAtW ho (by kernel_rfl)) ((hU 14 (by kernel_rfl)).2 20 rfl) ((hcd.below hM).cS) (hK w hM)
    | 16, _ =>
      have x6 : a.tmps[6]?.getD undef = evV e := ((hU 0 (by kernel_rfl)).2 6 rfl)
      have x11 : a.tmps[11]?.getD undef = .int .i64 q.T := ((hU 5 (by kernel_rfl)).2 11 rfl)
      have x16 : a.tmps[16]?.getD undef = .int .i64 q.V := ((hU 10 (by kernel_rfl)).2 16 rfl)
      have x21 : a.tmps[21]?.getD undef = .int .i64 q.S := ((hU 15 (by kernel_rfl)).2 21 rfl)
      obtain ⟨dst, op, type, pos, after, guard⟩ := oo
      have ho' : op = .call { callee := .value (.func 86), args := #[.tmp 6, .tmp 11, .tmp 16, .tmp 21], argTypes := #[50, 3, 3, 3] } := opAtW ho (by kernel_rfl)
      subst ho'
      clear ho hT hU hT0
      have hfun := Tryz.func86
      go_simp
      refine (HC w hM).mono ?_
      rintro _ w' ⟨rfl, h1⟩
      exact hK w' (hM.trans (h1.mono hM.size))
    | 17, _ => exact u_notT 22 (opAtW ho (by kernel_rfl)) ((hU 16 (by kernel_rfl)).2 22 rfl) (hK w hM)
    | i + 18, h => exact absurd (show i + 18 < 18 from h) (by omega)
  · intro w hM
    exact hend w (hM)
noncomputable def rgMay1f_ops : Array Oper := opsW Tryz.f54 1
def rgMay1f_D : List (Option Nat) := [some 6, some 7, some 8, some 9, some 10, some 11, some 12, some 13, some 14, some 15, some 16, some 17, some 18, some 19, some 20, some 21, some 22, some 23]
set_option maxRecDepth 100000 in
set_option maxHeartbeats 4000000 in
theorem rgMay1f {id : Nat} {ops : Array Oper} (hops : ops = rgMay1f_ops) (T0 : Array Value) (hsz : 24 ≤ T0.size) (W : World) (gc ge : Nat) (q : Cd) (e : Ev) (he : EvO W ge e) (hcd : CodAt W gc q) (HC : ∀ w, Below W.heap.size W w → Calls Tryz.prog 86 #[evV e, .int .i64 q.T, .int .i64 q.V, .int .i64 q.S] w fun r w' => r = .returned (.bool false) ∧ Below w.heap.size w w') (h0 : T0[0]? = some (.pointer (some ⟨gc, 0, none⟩))) (h3 : T0[3]? = some (.pointer (some ⟨ge, 0, none⟩))) {Q : Exit → Act → World → Prop}
    (hend : ∀ w : World, Below W.heap.size W w → Q .normal ⟨putAll T0 [6, 7, 8, 9, 10, 11, 12, 13, 14, 15, 16, 17, 18, 19, 20, 21, 22, 23] [evV e, .pointer (some ⟨gc, 0, none⟩), .pointer (some ⟨gc, 0, none⟩), .pointer (some ⟨gc, 0, none⟩), .pointer (some ⟨gc, 0, none⟩), .int .i64 q.T, .pointer (some ⟨gc, 0, none⟩), .pointer (some ⟨gc, 0, none⟩), .pointer (some ⟨gc, 0, none⟩), .pointer (some ⟨gc, 1, none⟩), .int .i64 q.V, .pointer (some ⟨gc, 0, none⟩), .pointer (some ⟨gc, 0, none⟩), .pointer (some ⟨gc, 0, none⟩), .pointer (some ⟨gc, 2, none⟩), .int .i64 q.S, .bool false, .bool true], []⟩ w) : (Code.region id ops true).wp Tryz.prog Q ⟨T0, []⟩ W := by
  subst hops
  have hos : rgMay1f_ops.size = 18 := by kernel_rfl
  have hga : (List.range 18).all (fun i => match rgMay1f_ops[i]? with | some o => o.guard == ([none, none, none, none, none, none, none, none, none, none, none, none, none, none, none, none, none, none] : List (Option (Nat × Bool))).getD i none | none => false) = true := by kernel_rfl
  have hds : ((pairsS rgMay1f_D ([evV e, .pointer (some ⟨gc, 0, none⟩), .pointer (some ⟨gc, 0, none⟩), .pointer (some ⟨gc, 0, none⟩), .pointer (some ⟨gc, 0, none⟩), .int .i64 q.T, .pointer (some ⟨gc, 0, none⟩), .pointer (some ⟨gc, 0, none⟩), .pointer (some ⟨gc, 0, none⟩), .pointer (some ⟨gc, 1, none⟩), .int .i64 q.V, .pointer (some ⟨gc, 0, none⟩), .pointer (some ⟨gc, 0, none⟩), .pointer (some ⟨gc, 0, none⟩), .pointer (some ⟨gc, 2, none⟩), .int .i64 q.S, .bool false, .bool true] : List Value)).map (·.1)) = [6, 7, 8, 9, 10, 11, 12, 13, 14, 15, 16, 17, 18, 19, 20, 21, 22, 23] := rfl
  refine wp_region_valsG ([evV e, .pointer (some ⟨gc, 0, none⟩), .pointer (some ⟨gc, 0, none⟩), .pointer (some ⟨gc, 0, none⟩), .pointer (some ⟨gc, 0, none⟩), .int .i64 q.T, .pointer (some ⟨gc, 0, none⟩), .pointer (some ⟨gc, 0, none⟩), .pointer (some ⟨gc, 0, none⟩), .pointer (some ⟨gc, 1, none⟩), .int .i64 q.V, .pointer (some ⟨gc, 0, none⟩), .pointer (some ⟨gc, 0, none⟩), .pointer (some ⟨gc, 0, none⟩), .pointer (some ⟨gc, 2, none⟩), .int .i64 q.S, .bool false, .bool true] : List Value) [true, true, true, true, true, true, true, true, true, true, true, true, true, true, true, true, true, true] rgMay1f_D (fun don w => Below W.heap.size W w) W T0 (by rw [hds]; decide) (fun x hx => ?_) (by kernel_rfl) (by kernel_rfl) (fun i o j want ho hg => ?_) (fun i hi hon => ?_) (fun i hi hon don w hM => ?_) ?_ ?_ ?_
  · rw [hds] at hx
    have hall : (([6, 7, 8, 9, 10, 11, 12, 13, 14, 15, 16, 17, 18, 19, 20, 21, 22, 23] : List Nat).all fun d => decide (d < 24)) = true := by decide
    have := List.all_eq_true.1 hall x hx
    simp only [decide_eq_true_eq] at this
    omega
  · have hi : i < 18 := by rw [← hos]; exact (Array.getElem?_eq_some_iff.1 ho).1
    have h1 := List.all_eq_true.1 hga i (by simpa using hi)
    rw [ho] at h1
    simp only [hg, beq_iff_eq] at h1
    match i, hi with
    | 0, _ => cases h1
    | 1, _ => cases h1
    | 2, _ => cases h1
    | 3, _ => cases h1
    | 4, _ => cases h1
    | 5, _ => cases h1
    | 6, _ => cases h1
    | 7, _ => cases h1
    | 8, _ => cases h1
    | 9, _ => cases h1
    | 10, _ => cases h1
    | 11, _ => cases h1
    | 12, _ => cases h1
    | 13, _ => cases h1
    | 14, _ => cases h1
    | 15, _ => cases h1
    | 16, _ => cases h1
    | 17, _ => cases h1
    | i + 18, h => exact absurd (show i + 18 < 18 from h) (by omega)
  · match i, hi with
    | 0, _ => cases hon
    | 1, _ => cases hon
    | 2, _ => cases hon
    | 3, _ => cases hon
    | 4, _ => cases hon
    | 5, _ => cases hon
    | 6, _ => cases hon
    | 7, _ => cases hon
    | 8, _ => cases hon
    | 9, _ => cases hon
    | 10, _ => cases hon
    | 11, _ => cases hon
    | 12, _ => cases hon
    | 13, _ => cases hon
    | 14, _ => cases hon
    | 15, _ => cases hon
    | 16, _ => cases hon
    | 17, _ => cases hon
    | i + 18, h => exact absurd (show i + 18 < 18 from h) (by omega)
  · match i, hi with
    | 0, _ => cases hon
    | 1, _ => cases hon
    | 2, _ => cases hon
    | 3, _ => cases hon
    | 4, _ => cases hon
    | 5, _ => cases hon
    | 6, _ => cases hon
    | 7, _ => cases hon
    | 8, _ => cases hon
    | 9, _ => cases hon
    | 10, _ => cases hon
    | 11, _ => cases hon
    | 12, _ => cases hon
    | 13, _ => cases hon
    | 14, _ => cases hon
    | 15, _ => cases hon
    | 16, _ => cases hon
    | 17, _ => cases hon
    | i + 18, h => exact absurd (show i + 18 < 18 from h) (by omega)
  · exact (Below.refl _ _).drew
  · intro i oo ho hi hon don a w hT hU hdi hM K hK
    rw [hds] at hT
    have hT0 : ∀ t v, t ∉ ([6, 7, 8, 9, 10, 11, 12, 13, 14, 15, 16, 17, 18, 19, 20, 21, 22, 23] : List Nat) → T0[t]? = some v → a.tmps[t]?.getD undef = v := fun t v ht hv => by rw [hT t ht, hv]; rfl
    match i, hi with
    | 0, _ => exact u_loadE 3 (opAtW ho (by kernel_rfl)) (hT0 3 _ (by decide) h3) (⟨rfl, he.below hM⟩) (hK w hM)
    | 1, _ => exact v_move 0 (opAtW ho (by kernel_rfl)) (hT0 0 _ (by decide) h0) (hK w hM)
    | 2, _ => exact u_nil 7 (opAtW ho (by kernel_rfl)) ((hU 1 (by kernel_rfl)).2 7 rfl) (hK w hM)
    | 3, _ => exact u_f78_0 8 (opAtW ho (by kernel_rfl)) ((hU 2 (by kernel_rfl)).2 8 rfl) (hK w hM)
    | 4, _ => exact u_f72_0 9 (opAtW ho (by kernel_rfl)) ((hU 3 (by kernel_rfl)).2 9 rfl) (hK w hM)
    | 5, _ => exact u_loadi 10 (opAtW ho (by kernel_rfl)) ((hU 4 (by kernel_rfl)).2 10 rfl) ((hcd.below hM).cT) (hK w hM)
    | 6, _ => exact v_move 0 (opAtW ho (by kernel_rfl)) (hT0 0 _ (by decide) h0) (hK w hM)
    | 7, _ => exact u_nil 12 (opAtW ho (by kernel_rfl)) ((hU 6 (by kernel_rfl)).2 12 rfl) (hK w hM)
    | 8, _ => exact u_f78_0 13 (opAtW ho (by kernel_rfl)) ((hU 7 (by kernel_rfl)).2 13 rfl) (hK w hM)
    | 9, _ => exact u_f72_1 14 (opAtW ho (by kernel_rfl)) ((hU 8 (by kernel_rfl)).2 14 rfl) (hK w hM)
    | 10, _ => exact u_loadi 15 (opAtW ho (by kernel_rfl)) ((hU 9 (by kernel_rfl)).2 15 rfl) ((hcd.below hM).cV) (hK w hM)
    | 11, _ => exact v_move 0 (opAtW ho (by kernel_rfl)) (hT0 0 _ (by decide) h0) (hK w hM)
    | 12, _ => exact u_nil 17 (opAtW ho (by kernel_rfl)) ((hU 11 (by kernel_rfl)).2 17 rfl) (hK w hM)
    | 13, _ => exact u_f78_0 18 (opAtW ho (by kernel_rfl)) ((hU 12 (by kernel_rfl)).2 18 rfl) (hK w hM)
    | 14, _ => exact u_f72_2 19 (opAtW ho (by kernel_rfl)) ((hU 13 (by kernel_rfl)).2 19 rfl) (hK w hM)
    | 15, _ => exact u_loadi 20 (opAtW ho (by kernel_rfl)) ((hU 14 (by kernel_rfl)).2 20 rfl) ((hcd.below hM).cS) (hK w hM)
    | 16, _ =>
      have x6 : a.tmps[6]?.getD undef = evV e := ((hU 0 (by kernel_rfl)).2 6 rfl)
      have x11 : a.tmps[11]?.getD undef = .int .i64 q.T := ((hU 5 (by kernel_rfl)).2 11 rfl)
      have x16 : a.tmps[16]?.getD undef = .int .i64 q.V := ((hU 10 (by kernel_rfl)).2 16 rfl)
      have x21 : a.tmps[21]?.getD undef = .int .i64 q.S := ((hU 15 (by kernel_rfl)).2 21 rfl)
      obtain ⟨dst, op, type, pos, after, guard⟩ := oo
      have ho' : op = .call { callee := .value (.func 86), args := #[.tmp 6, .tmp 11, .tmp 16, .tmp 21], argTypes := #[50, 3, 3, 3] } := opAtW ho (by kernel_rfl)
      subst ho'
      clear ho hT hU hT0
      have hfun := Tryz.func86
      go_simp
      refine (HC w hM).mono ?_
      rintro _ w' ⟨rfl, h1⟩
      exact hK w' (hM.trans (h1.mono hM.size))
    | 17, _ => exact u_notF 22 (opAtW ho (by kernel_rfl)) ((hU 16 (by kernel_rfl)).2 22 rfl) (hK w hM)
    | i + 18, h => exact absurd (show i + 18 < 18 from h) (by omega)
  · intro w hM
    exact hend w (hM)
noncomputable def rgMay3_ops : Array Oper := opsW Tryz.f54 3
def rgMay3_D : List (Option Nat) := [some 24, some 25, some 26, some 27, some 28, some 29, some 30, some 5, none]
set_option maxRecDepth 100000 in
set_option maxHeartbeats 4000000 in
theorem rgMay3 {id : Nat} {ops : Array Oper} (hops : ops = rgMay3_ops) (T0 : Array Value) (hsz : 31 ≤ T0.size) (W : World) (gc ge t : Nat) (ht : t < 6) (q : Cd) (e : Ev) (he : EvO W ge e) (hth : e.th = (t : Int)) (hcd : CodAt W gc q) (h0 : T0[0]? = some (.pointer (some ⟨gc, 0, none⟩))) (h3 : T0[3]? = some (.pointer (some ⟨ge, 0, none⟩))) {Q : Exit → Act → World → Prop}
    (hend : ∀ w : World, Below W.heap.size W w ∧ w.heap[W.heap.size]? = some (.cells #[.int .i64 (q.bg t), .int .i64 (q.bp t)] 98 (0, 0)) → Q .normal ⟨putAll T0 [24, 25, 26, 27, 28, 29, 30, 5] [.pointer (some ⟨gc, 0, none⟩), .pointer (some ⟨ge, 1, none⟩), .int .i64 (t : Int), .pointer (some ⟨gc, 0, none⟩), .pointer (some ⟨gc, 5, none⟩), .pointer (some ⟨gc, 5 + t * 2, none⟩), .agg #[.int .i64 (q.bg t), .int .i64 (q.bp t)], .pointer (some ⟨W.heap.size, 0, none⟩)], []⟩ w) : (Code.region id ops true).wp Tryz.prog Q ⟨T0, []⟩ W := by
  subst hops
  have hos : rgMay3_ops.size = 9 := by kernel_rfl
  have hga : (List.range 9).all (fun i => match rgMay3_ops[i]? with | some o => o.guard == ([none, none, none, none, none, none, none, none, none] : List (Option (Nat × Bool))).getD i none | none => false) = true := by kernel_rfl
  have hds : ((pairsS rgMay3_D ([.pointer (some ⟨gc, 0, none⟩), .pointer (some ⟨ge, 1, none⟩), .int .i64 (t : Int), .pointer (some ⟨gc, 0, none⟩), .pointer (some ⟨gc, 5, none⟩), .pointer (some ⟨gc, 5 + t * 2, none⟩), .agg #[.int .i64 (q.bg t), .int .i64 (q.bp t)], .pointer (some ⟨W.heap.size, 0, none⟩), undef] : List Value)).map (·.1)) = [24, 25, 26, 27, 28, 29, 30, 5] := rfl
  refine wp_region_valsG ([.pointer (some ⟨gc, 0, none⟩), .pointer (some ⟨ge, 1, none⟩), .int .i64 (t : Int), .pointer (some ⟨gc, 0, none⟩), .pointer (some ⟨gc, 5, none⟩), .pointer (some ⟨gc, 5 + t * 2, none⟩), .agg #[.int .i64 (q.bg t), .int .i64 (q.bp t)], .pointer (some ⟨W.heap.size, 0, none⟩), undef] : List Value) [true, true, true, true, true, true, true, true, true] rgMay3_D (fun don w => Below W.heap.size W w ∧ w.heap.size = cond (don 7) (W.heap.size + 1) W.heap.size ∧ (don 7 = true → w.heap[W.heap.size]? = some (.cells (cond (don 8) #[.int .i64 (q.bg t), .int .i64 (q.bp t)] #[.int .i64 0, .int .i64 0]) 98 (0, 0))) ∧ (don 8 = true → don 7 = true)) W T0 (by rw [hds]; decide) (fun x hx => ?_) (by kernel_rfl) (by kernel_rfl) (fun i o j want ho hg => ?_) (fun i hi hon => ?_) (fun i hi hon don w hM => ?_) ?_ ?_ ?_
  · rw [hds] at hx
    have hall : (([24, 25, 26, 27, 28, 29, 30, 5] : List Nat).all fun d => decide (d < 31)) = true := by decide
    have := List.all_eq_true.1 hall x hx
    simp only [decide_eq_true_eq] at this
    omega
  · have hi : i < 9 := by rw [← hos]; exact (Array.getElem?_eq_some_iff.1 ho).1
    have h1 := List.all_eq_true.1 hga i (by simpa using hi)
    rw [ho] at h1
    simp only [hg, beq_iff_eq] at h1
    match i, hi with
    | 0, _ => cases h1
    | 1, _ => cases h1
    | 2, _ => cases h1
    | 3, _ => cases h1
    | 4, _ => cases h1
    | 5, _ => cases h1
    | 6, _ => cases h1
    | 7, _ => cases h1
    | 8, _ => cases h1
    | i + 9, h => exact absurd (show i + 9 < 9 from h) (by omega)
  · match i, hi with
    | 0, _ => cases hon
    | 1, _ => cases hon
    | 2, _ => cases hon
    | 3, _ => cases hon
    | 4, _ => cases hon
    | 5, _ => cases hon
    | 6, _ => cases hon
    | 7, _ => cases hon
    | 8, _ => cases hon
    | i + 9, h => exact absurd (show i + 9 < 9 from h) (by omega)
  · match i, hi with
    | 0, _ => cases hon
    | 1, _ => cases hon
    | 2, _ => cases hon
    | 3, _ => cases hon
    | 4, _ => cases hon
    | 5, _ => cases hon
    | 6, _ => cases hon
    | 7, _ => cases hon
    | 8, _ => cases hon
    | i + 9, h => exact absurd (show i + 9 < 9 from h) (by omega)
  · exact ⟨(Below.refl _ _).drew, rfl, fun h => by simp at h, fun h => by simp at h⟩
  · intro i oo ho hi hon don a w hT hU hdi hM K hK
    rw [hds] at hT
    have hT0 : ∀ t v, t ∉ ([24, 25, 26, 27, 28, 29, 30, 5] : List Nat) → T0[t]? = some v → a.tmps[t]?.getD undef = v := fun t v ht hv => by rw [hT t ht, hv]; rfl
    match i, hi with
    | 0, _ => exact v_move 0 (opAtW ho (by kernel_rfl)) (hT0 0 _ (by decide) h0) (hK w hM)
    | 1, _ => exact u_f41_1 3 (opAtW ho (by kernel_rfl)) (hT0 3 _ (by decide) h3) (hK w hM)
    | 2, _ => exact u_loadi 25 (opAtW ho (by kernel_rfl)) ((hU 1 (by kernel_rfl)).2 25 rfl) (by rw [← hth]; exact (he.below hM.1).c1) (hK w hM)
    | 3, _ => exact u_nil 24 (opAtW ho (by kernel_rfl)) ((hU 0 (by kernel_rfl)).2 24 rfl) (hK w hM)
    | 4, _ => exact u_f78_3 27 (opAtW ho (by kernel_rfl)) ((hU 3 (by kernel_rfl)).2 27 rfl) (hK w hM)
    | 5, _ => exact u_i75 28 26 (k := t) ht (opAtW ho (by kernel_rfl)) ((hU 4 (by kernel_rfl)).2 28 rfl) ((hU 2 (by kernel_rfl)).2 26 rfl) (hK w hM)
    | 6, _ => exact u_loadT 29 (opAtW ho (by kernel_rfl)) ((hU 5 (by kernel_rfl)).2 29 rfl) (⟨(hcd.below hM.1).cbg ht, (hcd.below hM.1).cbp ht⟩) (hK w hM)
    | 7, _ =>
      refine u_allocT (opAtW ho (by kernel_rfl)) ?_
      obtain ⟨m1, m2, m3, m4⟩ := hM
      rw [hdi] at m2
      have m2 : w.heap.size = W.heap.size := m2
      have d8 : don 8 = false := by
        cases hq : don 8 with
        | false => rfl
        | true => have := m4 hq; rw [hdi] at this; cases this
      rw [m2]
      refine hK _ ⟨m1.alloc m1.size _, by simp [m2], fun _ => ?_, fun _ => by simp⟩
      have e8 : ((8 : Nat) == 7) = false := rfl
      simp only [e8, Bool.false_or, d8, cond_false]
      rw [← m2]
      exact heap_alloc_new w _
    | 8, _ =>
      have x5 : a.tmps[5]?.getD undef = .pointer (some ⟨W.heap.size, 0, none⟩) := ((hU 7 (by kernel_rfl)).2 5 rfl)
      have x30 : a.tmps[30]?.getD undef = .agg #[.int .i64 (q.bg t), .int .i64 (q.bp t)] := ((hU 6 (by kernel_rfl)).2 30 rfl)
      obtain ⟨m1, m2, m3, m4⟩ := hM
      have d7 : don 7 = true := (hU 7 (by kernel_rfl)).1
      have hr := m3 d7
      rw [hdi] at hr
      have hr : w.heap[W.heap.size]? = some (.cells #[.int .i64 0, .int .i64 0] 98 (0, 0)) := hr
      refine wp_store_row 98 (.tmp 5) (.tmp 30) (opAtW ho (by kernel_rfl)) W.heap.size #[.int .i64 (q.bg t), .int .i64 (q.bp t)] (by simpa [Act.eval] using x5) (by simpa [Act.eval] using x30) 98 _ hr (by kernel_rfl) rfl (by simp [Value.oneCell']) (hK _ ⟨below_setRow m1 (Nat.le_refl _) _, ?_, fun _ => ?_, fun _ => ?_⟩)
      · have e7 : ((7 : Nat) == 8) = false := rfl
        simp only [e7, Bool.false_or]
        rw [setRow_size]
        exact m2
      · simp only [beq_self_eq_true, Bool.true_or, cond_true]
        exact setRow_heap w _ _ _ _ _ hr
      · simp [d7]
    | i + 9, h => exact absurd (show i + 9 < 9 from h) (by omega)
  · intro w hM
    exact hend w (⟨hM.1, by have := hM.2.2.1 (by decide); exact this⟩)
noncomputable def rgKnow5_ops : Array Oper := opsW Tryz.f57 5
def rgKnow5_D : List (Option Nat) := [some 20, some 21, some 22, some 23, some 24, some 25, some 26, some 27, none, some 28, some 29, none]
set_option maxRecDepth 100000 in
set_option maxHeartbeats 4000000 in
theorem rgKnow5 {id : Nat} {ops : Array Oper} (hops : ops = rgKnow5_ops) (T0 : Array Value) (hsz : 30 ≤ T0.size) (W : World) (gc ge t : Nat) (ht : t < 6) (hgg : ge ≠ gc) (q : Cd) (e : Ev) (he : EvO W ge e) (hcd : CodAt W gc q) (h0 : T0[0]? = some (.pointer (some ⟨gc, 0, none⟩))) (h3 : T0[3]? = some (.pointer (some ⟨ge, 0, none⟩))) (h4 : T0[4]? = some (.pointer (some ⟨gc, 5 + t * 2, none⟩))) {Q : Exit → Act → World → Prop}
    (hend : ∀ w : World, CodAt w gc { q with clk := e.v, bg := put q.bg t e.v } ∧ Kp gc none W w → Q .normal ⟨putAll T0 [20, 21, 22, 23, 24, 25, 26, 27, 28, 29] [.pointer (some ⟨gc, 0, none⟩), .pointer (some ⟨gc, 5 + t * 2, none⟩), .pointer (some ⟨ge, 4, none⟩), .int .i64 e.v, .pointer (some ⟨ge, 4, none⟩), .int .i64 e.v, .pointer (some ⟨gc, 0, none⟩), .pointer (some ⟨gc, 4, none⟩), .pointer (some ⟨gc, 5 + t * 2, none⟩), .pointer (some ⟨gc, 5 + t * 2, none⟩)], []⟩ w) : (Code.region id ops true).wp Tryz.prog Q ⟨T0, []⟩ W := by
  subst hops
  have hos : rgKnow5_ops.size = 12 := by kernel_rfl
  have hga : (List.range 12).all (fun i => match rgKnow5_ops[i]? with | some o => o.guard == ([none, none, none, none, none, none, none, none, none, none, none, none] : List (Option (Nat × Bool))).getD i none | none => false) = true := by kernel_rfl
  have hds : ((pairsS rgKnow5_D ([.pointer (some ⟨gc, 0, none⟩), .pointer (some ⟨gc, 5 + t * 2, none⟩), .pointer (some ⟨ge, 4, none⟩), .int .i64 e.v, .pointer (some ⟨ge, 4, none⟩), .int .i64 e.v, .pointer (some ⟨gc, 0, none⟩), .pointer (some ⟨gc, 4, none⟩), undef, .pointer (some ⟨gc, 5 + t * 2, none⟩), .pointer (some ⟨gc, 5 + t * 2, none⟩), undef] : List Value)).map (·.1)) = [20, 21, 22, 23, 24, 25, 26, 27, 28, 29] := rfl
  refine wp_region_valsG ([.pointer (some ⟨gc, 0, none⟩), .pointer (some ⟨gc, 5 + t * 2, none⟩), .pointer (some ⟨ge, 4, none⟩), .int .i64 e.v, .pointer (some ⟨ge, 4, none⟩), .int .i64 e.v, .pointer (some ⟨gc, 0, none⟩), .pointer (some ⟨gc, 4, none⟩), undef, .pointer (some ⟨gc, 5 + t * 2, none⟩), .pointer (some ⟨gc, 5 + t * 2, none⟩), undef] : List Value) [true, true, true, true, true, true, true, true, true, true, true, true] rgKnow5_D (fun don w => EvO w ge e ∧ CodAt w gc { q with clk := cond (don 8) e.v q.clk, bg := cond (don 11) (put q.bg t e.v) q.bg } ∧ Kp gc none W w) W T0 (by rw [hds]; decide) (fun x hx => ?_) (by kernel_rfl) (by kernel_rfl) (fun i o j want ho hg => ?_) (fun i hi hon => ?_) (fun i hi hon don w hM => ?_) ?_ ?_ ?_
  · rw [hds] at hx
    have hall : (([20, 21, 22, 23, 24, 25, 26, 27, 28, 29] : List Nat).all fun d => decide (d < 30)) = true := by decide
    have := List.all_eq_true.1 hall x hx
    simp only [decide_eq_true_eq] at this
    omega
  · have hi : i < 12 := by rw [← hos]; exact (Array.getElem?_eq_some_iff.1 ho).1
    have h1 := List.all_eq_true.1 hga i (by simpa using hi)
    rw [ho] at h1
    simp only [hg, beq_iff_eq] at h1
    match i, hi with
    | 0, _ => cases h1
    | 1, _ => cases h1
    | 2, _ => cases h1
    | 3, _ => cases h1
    | 4, _ => cases h1
    | 5, _ => cases h1
    | 6, _ => cases h1
    | 7, _ => cases h1
    | 8, _ => cases h1
    | 9, _ => cases h1
    | 10, _ => cases h1
    | 11, _ => cases h1
    | i + 12, h => exact absurd (show i + 12 < 12 from h) (by omega)
  · match i, hi with
    | 0, _ => cases hon
    | 1, _ => cases hon
    | 2, _ => cases hon
    | 3, _ => cases hon
    | 4, _ => cases hon
    | 5, _ => cases hon
    | 6, _ => cases hon
    | 7, _ => cases hon
    | 8, _ => cases hon
    | 9, _ => cases hon
    | 10, _ => cases hon
    | 11, _ => cases hon
    | i + 12, h => exact absurd (show i + 12 < 12 from h) (by omega)
  · match i, hi with
    | 0, _ => cases hon
    | 1, _ => cases hon
    | 2, _ => cases hon
    | 3, _ => cases hon
    | 4, _ => cases hon
    | 5, _ => cases hon
    | 6, _ => cases hon
    | 7, _ => cases hon
    | 8, _ => cases hon
    | 9, _ => cases hon
    | 10, _ => cases hon
    | 11, _ => cases hon
    | i + 12, h => exact absurd (show i + 12 < 12 from h) (by omega)
  · exact ⟨he, hcd, kp_below ((Below.refl _ _).drew)⟩
  · intro i oo ho hi hon don a w hT hU hdi hM K hK
    rw [hds] at hT
    have hT0 : ∀ t v, t ∉ ([20, 21, 22, 23, 24, 25, 26, 27, 28, 29] : List Nat) → T0[t]? = some v → a.tmps[t]?.getD undef = v := fun t v ht hv => by rw [hT t ht, hv]; rfl
    match i, hi with
    | 0, _ => exact v_move 0 (opAtW ho (by kernel_rfl)) (hT0 0 _ (by decide) h0) (hK w hM)
    | 1, _ => exact v_move 4 (opAtW ho (by kernel_rfl)) (hT0 4 _ (by decide) h4) (hK w hM)
    | 2, _ => exact u_f41_4 3 (opAtW ho (by kernel_rfl)) (hT0 3 _ (by decide) h3) (hK w hM)
    | 3, _ => exact u_loadi 22 (opAtW ho (by kernel_rfl)) ((hU 2 (by kernel_rfl)).2 22 rfl) (hM.1.c4) (hK w hM)
    | 4, _ => exact u_f41_4 3 (opAtW ho (by kernel_rfl)) (hT0 3 _ (by decide) h3) (hK w hM)
    | 5, _ => exact u_loadi 24 (opAtW ho (by kernel_rfl)) ((hU 4 (by kernel_rfl)).2 24 rfl) (hM.1.c4) (hK w hM)
    | 6, _ => exact u_nil 20 (opAtW ho (by kernel_rfl)) ((hU 0 (by kernel_rfl)).2 20 rfl) (hK w hM)
    | 7, _ => exact u_f78_2 26 (opAtW ho (by kernel_rfl)) ((hU 6 (by kernel_rfl)).2 26 rfl) (hK w hM)
    | 8, _ =>
      have x27 : a.tmps[27]?.getD undef = .pointer (some ⟨gc, 4, none⟩) := ((hU 7 (by kernel_rfl)).2 27 rfl)
      have x23 : a.tmps[23]?.getD undef = .int .i64 e.v := ((hU 3 (by kernel_rfl)).2 23 rfl)
      obtain ⟨m1, m2, m3⟩ := hM
      have ky := kp_set w gc 4 (.int .i64 e.v)
      exact u_storei 27 23 (opAtW ho (by kernel_rfl)) x27 x23 (m2.cell (i := 4) (by omega)) (m2.fr 4) (hK _ ⟨m1.same (ky.block ge m1.lt hgg (by simp)), m2.set (by omega) e.v (fun j hj => put_clk e.v j hj), m3.trans ky⟩)
    | 9, _ => exact u_nil 21 (opAtW ho (by kernel_rfl)) ((hU 1 (by kernel_rfl)).2 21 rfl) (hK w hM)
    | 10, _ => exact u_f74_0 28 (opAtW ho (by kernel_rfl)) ((hU 9 (by kernel_rfl)).2 28 rfl) (hK w hM)
    | 11, _ =>
      have x29 : a.tmps[29]?.getD undef = .pointer (some ⟨gc, 5 + t * 2, none⟩) := ((hU 10 (by kernel_rfl)).2 29 rfl)
      have x25 : a.tmps[25]?.getD undef = .int .i64 e.v := ((hU 5 (by kernel_rfl)).2 25 rfl)
      obtain ⟨m1, m2, m3⟩ := hM
      rw [hdi] at m2
      have m2 : CodAt w gc { q with clk := cond (don 8) e.v q.clk } := m2
      have ky := kp_set w gc (5 + t * 2) (.int .i64 e.v)
      exact u_storei 29 25 (opAtW ho (by kernel_rfl)) x29 x25 (m2.cell (i := 5 + t * 2) (by omega)) (m2.fr _) (hK _ ⟨m1.same (ky.block ge m1.lt hgg (by simp)), m2.set (by omega) e.v (fun j hj => put_bg ht e.v j hj), m3.trans ky⟩)
    | i + 12, h => exact absurd (show i + 12 < 12 from h) (by omega)
  · intro w hM
    exact hend w (hM.2)
noncomputable def rgKnow7_ops : Array Oper := opsW Tryz.f57 7
def rgKnow7_D : List (Option Nat) := [some 32, some 33, some 34, some 35, some 36, some 37, some 38, some 39, none, some 40, some 41, none]
set_option maxRecDepth 100000 in
set_option maxHeartbeats 4000000 in
theorem rgKnow7 {id : Nat} {ops : Array Oper} (hops : ops = rgKnow7_ops) (T0 : Array Value) (hsz : 42 ≤ T0.size) (W : World) (gc ge t : Nat) (ht : t < 6) (hgg : ge ≠ gc) (q : Cd) (e : Ev) (he : EvO W ge e) (hcd : CodAt W gc q) (h0 : T0[0]? = some (.pointer (some ⟨gc, 0, none⟩))) (h3 : T0[3]? = some (.pointer (some ⟨ge, 0, none⟩))) (h4 : T0[4]? = some (.pointer (some ⟨gc, 5 + t * 2, none⟩))) {Q : Exit → Act → World → Prop}
    (hend : ∀ w : World, CodAt w gc { q with clk := e.v, bp := put q.bp t e.v } ∧ Kp gc none W w → Q .normal ⟨putAll T0 [32, 33, 34, 35, 36, 37, 38, 39, 40, 41] [.pointer (some ⟨gc, 0, none⟩), .pointer (some ⟨gc, 5 + t * 2, none⟩), .pointer (some ⟨ge, 4, none⟩), .int .i64 e.v, .pointer (some ⟨ge, 4, none⟩), .int .i64 e.v, .pointer (some ⟨gc, 0, none⟩), .pointer (some ⟨gc, 4, none⟩), .pointer (some ⟨gc, 5 + t * 2, none⟩), .pointer (some ⟨gc, 5 + t * 2 + 1, none⟩)], []⟩ w) : (Code.region id ops true).wp Tryz.prog Q ⟨T0, []⟩ W := by
  subst hops
  have hos : rgKnow7_ops.size = 12 := by kernel_rfl
  have hga : (List.range 12).all (fun i => match rgKnow7_ops[i]? with | some o => o.guard == ([none, none, none, none, none, none, none, none, none, none, none, none] : List (Option (Nat × Bool))).getD i none | none => false) = true := by kernel_rfl
  have hds : ((pairsS rgKnow7_D ([.pointer (some ⟨gc, 0, none⟩), .pointer (some ⟨gc, 5 + t * 2, none⟩), .pointer (some ⟨ge, 4, none⟩), .int .i64 e.v, .pointer (some ⟨ge, 4, none⟩), .int .i64 e.v, .pointer (some ⟨gc, 0, none⟩), .pointer (some ⟨gc, 4, none⟩), undef, .pointer (some ⟨gc, 5 + t * 2, none⟩), .pointer (some ⟨gc, 5 + t * 2 + 1, none⟩), undef] : List Value)).map (·.1)) = [32, 33, 34, 35, 36, 37, 38, 39, 40, 41] := rfl
  refine wp_region_valsG ([.pointer (some ⟨gc, 0, none⟩), .pointer (some ⟨gc, 5 + t * 2, none⟩), .pointer (some ⟨ge, 4, none⟩), .int .i64 e.v, .pointer (some ⟨ge, 4, none⟩), .int .i64 e.v, .pointer (some ⟨gc, 0, none⟩), .pointer (some ⟨gc, 4, none⟩), undef, .pointer (some ⟨gc, 5 + t * 2, none⟩), .pointer (some ⟨gc, 5 + t * 2 + 1, none⟩), undef] : List Value) [true, true, true, true, true, true, true, true, true, true, true, true] rgKnow7_D (fun don w => EvO w ge e ∧ CodAt w gc { q with clk := cond (don 8) e.v q.clk, bp := cond (don 11) (put q.bp t e.v) q.bp } ∧ Kp gc none W w) W T0 (by rw [hds]; decide) (fun x hx => ?_) (by kernel_rfl) (by kernel_rfl) (fun i o j want ho hg => ?_) (fun i hi hon => ?_) (fun i hi hon don w hM => ?_) ?_ ?_ ?_
  · rw [hds] at hx
    have hall : (([32, 33, 34, 35, 36, 37, 38, 39, 40, 41] : List Nat).all fun d => decide (d < 42)) = true := by decide
    have := List.all_eq_true.1 hall x hx
    simp only [decide_eq_true_eq] at this
    omega
  · have hi : i < 12 := by rw [← hos]; exact (Array.getElem?_eq_some_iff.1 ho).1
    have h1 := List.all_eq_true.1 hga i (by simpa using hi)
    rw [ho] at h1
    simp only [hg, beq_iff_eq] at h1
    match i, hi with
    | 0, _ => cases h1
    | 1, _ => cases h1
    | 2, _ => cases h1
    | 3, _ => cases h1
    | 4, _ => cases h1
    | 5, _ => cases h1
    | 6, _ => cases h1
    | 7, _ => cases h1
    | 8, _ => cases h1
    | 9, _ => cases h1
    | 10, _ => cases h1
    | 11, _ => cases h1
    | i + 12, h => exact absurd (show i + 12 < 12 from h) (by omega)
  · match i, hi with
    | 0, _ => cases hon
    | 1, _ => cases hon
    | 2, _ => cases hon
    | 3, _ => cases hon
    | 4, _ => cases hon
    | 5, _ => cases hon
    | 6, _ => cases hon
    | 7, _ => cases hon
    | 8, _ => cases hon
    | 9, _ => cases hon
    | 10, _ => cases hon
    | 11, _ => cases hon
    | i + 12, h => exact absurd (show i + 12 < 12 from h) (by omega)
  · match i, hi with
    | 0, _ => cases hon
    | 1, _ => cases hon
    | 2, _ => cases hon
    | 3, _ => cases hon
    | 4, _ => cases hon
    | 5, _ => cases hon
    | 6, _ => cases hon
    | 7, _ => cases hon
    | 8, _ => cases hon
    | 9, _ => cases hon
    | 10, _ => cases hon
    | 11, _ => cases hon
    | i + 12, h => exact absurd (show i + 12 < 12 from h) (by omega)
  · exact ⟨he, hcd, kp_below ((Below.refl _ _).drew)⟩
  · intro i oo ho hi hon don a w hT hU hdi hM K hK
    rw [hds] at hT
    have hT0 : ∀ t v, t ∉ ([32, 33, 34, 35, 36, 37, 38, 39, 40, 41] : List Nat) → T0[t]? = some v → a.tmps[t]?.getD undef = v := fun t v ht hv => by rw [hT t ht, hv]; rfl
    match i, hi with
    | 0, _ => exact v_move 0 (opAtW ho (by kernel_rfl)) (hT0 0 _ (by decide) h0) (hK w hM)
    | 1, _ => exact v_move 4 (opAtW ho (by kernel_rfl)) (hT0 4 _ (by decide) h4) (hK w hM)
    | 2, _ => exact u_f41_4 3 (opAtW ho (by kernel_rfl)) (hT0 3 _ (by decide) h3) (hK w hM)
    | 3, _ => exact u_loadi 34 (opAtW ho (by kernel_rfl)) ((hU 2 (by kernel_rfl)).2 34 rfl) (hM.1.c4) (hK w hM)
    | 4, _ => exact u_f41_4 3 (opAtW ho (by kernel_rfl)) (hT0 3 _ (by decide) h3) (hK w hM)
    | 5, _ => exact u_loadi 36 (opAtW ho (by kernel_rfl)) ((hU 4 (by kernel_rfl)).2 36 rfl) (hM.1.c4) (hK w hM)
    | 6, _ => exact u_nil 32 (opAtW ho (by kernel_rfl)) ((hU 0 (by kernel_rfl)).2 32 rfl) (hK w hM)
    | 7, _ => exact u_f78_2 38 (opAtW ho (by kernel_rfl)) ((hU 6 (by kernel_rfl)).2 38 rfl) (hK w hM)
    | 8, _ =>
      have x39 : a.tmps[39]?.getD undef = .pointer (some ⟨gc, 4, none⟩) := ((hU 7 (by kernel_rfl)).2 39 rfl)
      have x35 : a.tmps[35]?.getD undef = .int .i64 e.v := ((hU 3 (by kernel_rfl)).2 35 rfl)
      obtain ⟨m1, m2, m3⟩ := hM
      have ky := kp_set w gc 4 (.int .i64 e.v)
      exact u_storei 39 35 (opAtW ho (by kernel_rfl)) x39 x35 (m2.cell (i := 4) (by omega)) (m2.fr 4) (hK _ ⟨m1.same (ky.block ge m1.lt hgg (by simp)), m2.set (by omega) e.v (fun j hj => put_clk e.v j hj), m3.trans ky⟩)
    | 9, _ => exact u_nil 33 (opAtW ho (by kernel_rfl)) ((hU 1 (by kernel_rfl)).2 33 rfl) (hK w hM)
    | 10, _ => exact u_f74_1 40 (opAtW ho (by kernel_rfl)) ((hU 9 (by kernel_rfl)).2 40 rfl) (hK w hM)
    | 11, _ =>
      have x41 : a.tmps[41]?.getD undef = .pointer (some ⟨gc, 5 + t * 2 + 1, none⟩) := ((hU 10 (by kernel_rfl)).2 41 rfl)
      have x37 : a.tmps[37]?.getD undef = .int .i64 e.v := ((hU 5 (by kernel_rfl)).2 37 rfl)
      obtain ⟨m1, m2, m3⟩ := hM
      rw [hdi] at m2
      have m2 : CodAt w gc { q with clk := cond (don 8) e.v q.clk } := m2
      have ky := kp_set w gc (5 + t * 2 + 1) (.int .i64 e.v)
      exact u_storei 41 37 (opAtW ho (by kernel_rfl)) x41 x37 (m2.cell (i := 5 + t * 2 + 1) (by omega)) (m2.fr _) (hK _ ⟨m1.same (ky.block ge m1.lt hgg (by simp)), m2.set (by omega) e.v (fun j hj => put_bp ht e.v j hj), m3.trans ky⟩)
    | i + 12, h => exact absurd (show i + 12 < 12 from h) (by omega)
  · intro w hM
    exact hend w (hM.2)
noncomputable def rgKnow10_ops : Array Oper := opsW Tryz.f57 10
def rgKnow10_D : List (Option Nat) := [some 45, some 46, some 47, some 48, some 49, some 50, some 51, some 52, none]
set_option maxRecDepth 100000 in
set_option maxHeartbeats 4000000 in
theorem rgKnow10 {id : Nat} {ops : Array Oper} (hops : ops = rgKnow10_ops) (T0 : Array Value) (hsz : 53 ≤ T0.size) (W : World) (gc ge v : Nat) (hv : v < 32) (hgg : ge ≠ gc) (q : Cd) (e : Ev) (he : EvO W ge e) (hpl : e.pl = (v : Int)) (hcd : CodAt W gc q) (h0 : T0[0]? = some (.pointer (some ⟨gc, 0, none⟩))) (h3 : T0[3]? = some (.pointer (some ⟨ge, 0, none⟩))) {Q : Exit → Act → World → Prop}
    (hend : ∀ w : World, CodAt w gc { q with xs := put q.xs v e.x } ∧ Kp gc none W w → Q .normal ⟨putAll T0 [45, 46, 47, 48, 49, 50, 51, 52] [.pointer (some ⟨gc, 0, none⟩), .pointer (some ⟨ge, 3, none⟩), .int .i64 (v : Int), .pointer (some ⟨ge, 5, none⟩), .int .i64 e.x, .pointer (some ⟨gc, 0, none⟩), .pointer (some ⟨gc, 17, none⟩), .pointer (some ⟨gc, 17 + v, none⟩)], []⟩ w) : (Code.region id ops true).wp Tryz.prog Q ⟨T0, []⟩ W := by
  subst hops
  have hos : rgKnow10_ops.size = 9 := by kernel_rfl
  have hga : (List.range 9).all (fun i => match rgKnow10_ops[i]? with | some o => o.guard == ([none, none, none, none, none, none, none, none, none] : List (Option (Nat × Bool))).getD i none | none => false) = true := by kernel_rfl
  have hds : ((pairsS rgKnow10_D ([.pointer (some ⟨gc, 0, none⟩), .pointer (some ⟨ge, 3, none⟩), .int .i64 (v : Int), .pointer (some ⟨ge, 5, none⟩), .int .i64 e.x, .pointer (some ⟨gc, 0, none⟩), .pointer (some ⟨gc, 17, none⟩), .pointer (some ⟨gc, 17 + v, none⟩), undef] : List Value)).map (·.1)) = [45, 46, 47, 48, 49, 50, 51, 52] := rfl
  refine wp_region_valsG ([.pointer (some ⟨gc, 0, none⟩), .pointer (some ⟨ge, 3, none⟩), .int .i64 (v : Int), .pointer (some ⟨ge, 5, none⟩), .int .i64 e.x, .pointer (some ⟨gc, 0, none⟩), .pointer (some ⟨gc, 17, none⟩), .pointer (some ⟨gc, 17 + v, none⟩), undef] : List Value) [true, true, true, true, true, true, true, true, true] rgKnow10_D (fun don w => EvO w ge e ∧ CodAt w gc { q with xs := cond (don 8) (put q.xs v e.x) q.xs } ∧ Kp gc none W w) W T0 (by rw [hds]; decide) (fun x hx => ?_) (by kernel_rfl) (by kernel_rfl) (fun i o j want ho hg => ?_) (fun i hi hon => ?_) (fun i hi hon don w hM => ?_) ?_ ?_ ?_
  · rw [hds] at hx
    have hall : (([45, 46, 47, 48, 49, 50, 51, 52] : List Nat).all fun d => decide (d < 53)) = true := by decide
    have := List.all_eq_true.1 hall x hx
    simp only [decide_eq_true_eq] at this
    omega
  · have hi : i < 9 := by rw [← hos]; exact (Array.getElem?_eq_some_iff.1 ho).1
    have h1 := List.all_eq_true.1 hga i (by simpa using hi)
    rw [ho] at h1
    simp only [hg, beq_iff_eq] at h1
    match i, hi with
    | 0, _ => cases h1
    | 1, _ => cases h1
    | 2, _ => cases h1
    | 3, _ => cases h1
    | 4, _ => cases h1
    | 5, _ => cases h1
    | 6, _ => cases h1
    | 7, _ => cases h1
    | 8, _ => cases h1
    | i + 9, h => exact absurd (show i + 9 < 9 from h) (by omega)
  · match i, hi with
    | 0, _ => cases hon
    | 1, _ => cases hon
    | 2, _ => cases hon
    | 3, _ => cases hon
    | 4, _ => cases hon
    | 5, _ => cases hon
    | 6, _ => cases hon
    | 7, _ => cases hon
    | 8, _ => cases hon
    | i + 9, h => exact absurd (show i + 9 < 9 from h) (by omega)
  · match i, hi with
    | 0, _ => cases hon
    | 1, _ => cases hon
    | 2, _ => cases hon
    | 3, _ => cases hon
    | 4, _ => cases hon
    | 5, _ => cases hon
    | 6, _ => cases hon
    | 7, _ => cases hon
    | 8, _ => cases hon
    | i + 9, h => exact absurd (show i + 9 < 9 from h) (by omega)
  · exact ⟨he, hcd, kp_below ((Below.refl _ _).drew)⟩
  · intro i oo ho hi hon don a w hT hU hdi hM K hK
    rw [hds] at hT
    have hT0 : ∀ t v, t ∉ ([45, 46, 47, 48, 49, 50, 51, 52] : List Nat) → T0[t]? = some v → a.tmps[t]?.getD undef = v := fun t v ht hv => by rw [hT t ht, hv]; rfl
    match i, hi with
    | 0, _ => exact v_move 0 (opAtW ho (by kernel_rfl)) (hT0 0 _ (by decide) h0) (hK w hM)
    | 1, _ => exact u_f41_3 3 (opAtW ho (by kernel_rfl)) (hT0 3 _ (by decide) h3) (hK w hM)
    | 2, _ => exact u_loadi 46 (opAtW ho (by kernel_rfl)) ((hU 1 (by kernel_rfl)).2 46 rfl) (by rw [← hpl]; exact hM.1.c3) (hK w hM)
    | 3, _ => exact u_f41_5 3 (opAtW ho (by kernel_rfl)) (hT0 3 _ (by decide) h3) (hK w hM)
    | 4, _ => exact u_loadl 48 (opAtW ho (by kernel_rfl)) ((hU 3 (by kernel_rfl)).2 48 rfl) (hM.1.c5) (hK w hM)
    | 5, _ => exact u_nil 45 (opAtW ho (by kernel_rfl)) ((hU 0 (by kernel_rfl)).2 45 rfl) (hK w hM)
    | 6, _ => exact u_f78_4 50 (opAtW ho (by kernel_rfl)) ((hU 5 (by kernel_rfl)).2 50 rfl) (hK w hM)
    | 7, _ => exact u_i76 51 47 (k := v) hv (opAtW ho (by kernel_rfl)) ((hU 6 (by kernel_rfl)).2 51 rfl) ((hU 2 (by kernel_rfl)).2 47 rfl) (hK w hM)
    | 8, _ =>
      have x52 : a.tmps[52]?.getD undef = .pointer (some ⟨gc, 17 + v, none⟩) := ((hU 7 (by kernel_rfl)).2 52 rfl)
      have x49 : a.tmps[49]?.getD undef = .int .i64 e.x := ((hU 4 (by kernel_rfl)).2 49 rfl)
      obtain ⟨m1, m2, m3⟩ := hM
      rw [hdi] at m2
      have m2 : CodAt w gc q := m2
      have ky := kp_set w gc (17 + v) (.int .i64 e.x)
      exact u_storel 52 49 (opAtW ho (by kernel_rfl)) x52 x49 (m2.cell (i := 17 + v) (by omega)) (m2.fr _) (hK _ ⟨m1.same (ky.block ge m1.lt hgg (by simp)), m2.set (by omega) e.x (fun j hj => put_xs hv e.x j hj), m3.trans ky⟩)
    | i + 9, h => exact absurd (show i + 9 < 9 from h) (by omega)
  · intro w hM
    exact hend w (hM.2)
noncomputable def rgPut_ops : Array Oper := opsW Tryz.f56 1
def rgPut_D : List (Option Nat) := [some 8, some 9, some 10, some 11, none]
set_option maxRecDepth 100000 in
set_option maxHeartbeats 4000000 in
theorem rgPut {id : Nat} {ops : Array Oper} (hops : ops = rgPut_ops) (T0 : Array Value) (hsz : 12 ≤ T0.size) (W : World) (gt : Nat) (s t : ByteArray) (n : Int) (hs : s.size ≤ 1000) (ht : t.size ≤ 1000) (hr : W.heap[gt]? = some (.cells #[.string s] 9 (0, 0))) (HC : ∀ w, Calls Tryz.prog 52 #[.int .u64 n] w fun r w' => r = .returned (.string t) ∧ Below w.heap.size w w') (h0 : T0[0]? = some (.int .u64 n)) (h3 : T0[3]? = some (.pointer (some ⟨gt, 0, none⟩))) {Q : Exit → Act → World → Prop}
    (hend : ∀ w : World, w.heap[gt]? = some (.cells #[.string (s ++ t)] 9 (0, 0)) ∧ Kp gt none W w → Q .normal ⟨putAll T0 [8, 9, 10, 11] [.string s, .int .u64 n, .string t, .string (s ++ t)], []⟩ w) : (Code.region id ops true).wp Tryz.prog Q ⟨T0, []⟩ W := by
  subst hops
  have hos : rgPut_ops.size = 5 := by kernel_rfl
  have hga : (List.range 5).all (fun i => match rgPut_ops[i]? with | some o => o.guard == ([none, none, none, none, none] : List (Option (Nat × Bool))).getD i none | none => false) = true := by kernel_rfl
  have hds : ((pairsS rgPut_D ([.string s, .int .u64 n, .string t, .string (s ++ t), undef] : List Value)).map (·.1)) = [8, 9, 10, 11] := rfl
  refine wp_region_valsG ([.string s, .int .u64 n, .string t, .string (s ++ t), undef] : List Value) [true, true, true, true, true] rgPut_D (fun don w => w.heap[gt]? = some (.cells #[.string (cond (don 4) (s ++ t) s)] 9 (0, 0)) ∧ Kp gt none W w ∧ (don 4 = true → don 0 = true)) W T0 (by rw [hds]; decide) (fun x hx => ?_) (by kernel_rfl) (by kernel_rfl) (fun i o j want ho hg => ?_) (fun i hi hon => ?_) (fun i hi hon don w hM => ?_) ?_ ?_ ?_
  · rw [hds] at hx
    have hall : (([8, 9, 10, 11] : List Nat).all fun d => decide (d < 12)) = true := by decide
    have := List.all_eq_true.1 hall x hx
    simp only [decide_eq_true_eq] at this
    omega
  · have hi : i < 5 := by rw [← hos]; exact (Array.getElem?_eq_some_iff.1 ho).1
    have h1 := List.all_eq_true.1 hga i (by simpa using hi)
    rw [ho] at h1
    simp only [hg, beq_iff_eq] at h1
    match i, hi with
    | 0, _ => cases h1
    | 1, _ => cases h1
    | 2, _ => cases h1
    | 3, _ => cases h1
    | 4, _ => cases h1
    | i + 5, h => exact absurd (show i + 5 < 5 from h) (by omega)
  · match i, hi with
    | 0, _ => cases hon
    | 1, _ => cases hon
    | 2, _ => cases hon
    | 3, _ => cases hon
    | 4, _ => cases hon
    | i + 5, h => exact absurd (show i + 5 < 5 from h) (by omega)
  · match i, hi with
    | 0, _ => cases hon
    | 1, _ => cases hon
    | 2, _ => cases hon
    | 3, _ => cases hon
    | 4, _ => cases hon
    | i + 5, h => exact absurd (show i + 5 < 5 from h) (by omega)
  · exact ⟨hr, kp_below ((Below.refl _ _).drew), fun h => by simp at h⟩
  · intro i oo ho hi hon don a w hT hU hdi hM K hK
    rw [hds] at hT
    have hT0 : ∀ t v, t ∉ ([8, 9, 10, 11] : List Nat) → T0[t]? = some v → a.tmps[t]?.getD undef = v := fun t v ht hv => by rw [hT t ht, hv]; rfl
    match i, hi with
    | 0, _ => exact u_loads 3 (opAtW ho (by kernel_rfl)) (hT0 3 _ (by decide) h3) (by have h9 := hM.1; have d4 : don 4 = false := (by cases hq : don 4 with | false => rfl | true => (have := hM.2.2 hq; rw [hdi] at this; cases this)); rw [d4] at h9; exact (cell_of_row w gt 0 _ _ _ h9)) (hK w ⟨hM.1, hM.2.1, fun h => rfl⟩)
    | 1, _ => exact v_move 0 (opAtW ho (by kernel_rfl)) (hT0 0 _ (by decide) h0) (hK w hM)
    | 2, _ =>
      have x9 : a.tmps[9]?.getD undef = .int .u64 n := ((hU 1 (by kernel_rfl)).2 9 rfl)
      obtain ⟨dst, op, type, pos, after, guard⟩ := oo
      have ho' : op = .call { callee := .value (.func 52), args := #[.tmp 9], argTypes := #[56] } := opAtW ho (by kernel_rfl)
      subst ho'
      clear ho hT hU hT0
      have hfun := Tryz.func52
      go_simp
      obtain ⟨m1, m2, m3⟩ := hM
      refine (HC w).mono ?_
      rintro _ w' ⟨rfl, h1⟩
      exact hK w' ⟨row_stays m1 h1, m2.trans (kp_below h1), m3⟩
    | 3, _ => exact u_add_9 8 10 (opAtW ho (by kernel_rfl)) ((hU 0 (by kernel_rfl)).2 8 rfl) ((hU 2 (by kernel_rfl)).2 10 rfl) (⟨hs, ht⟩) (hK w hM)
    | 4, _ =>
      have x3 : a.tmps[3]?.getD undef = .pointer (some ⟨gt, 0, none⟩) := (hT0 3 _ (by decide) h3)
      have x11 : a.tmps[11]?.getD undef = .string (s ++ t) := ((hU 3 (by kernel_rfl)).2 11 rfl)
      obtain ⟨m1, m2, m3⟩ := hM
      rw [hdi] at m1
      have m1 : w.heap[gt]? = some (.cells #[.string s] 9 (0, 0)) := m1
      have ky := kp_set w gt 0 (.string (s ++ t))
      exact u_stores 3 11 (opAtW ho (by kernel_rfl)) x3 x11 (cell_of_row w gt 0 _ _ _ m1) (by unfold World.frozen?; rw [m1]; rfl) (hK _ ⟨Obj.store (w := w) (g := gt) (t := 9) (cs := #[.string s]) m1 0 (.string (s ++ t)), m2.trans ky, fun _ => by simp [(hU 0 (by kernel_rfl)).1]⟩)
    | i + 5, h => exact absurd (show i + 5 < 5 from h) (by omega)
  · intro w hM
    exact hend w (⟨hM.1, hM.2.1⟩)
end Go.Proofs.YteigglhhnemngaaGreatDoor
namespace Go.Proofs.YteigglhhnemngaaGreatDoor
set_option maxRecDepth 100000
open Go.RowKit Go.Deep
set_option linter.unusedVariables false
set_option linter.unusedSimpArgs false
theorem none_any (q : Cd) (hq : CdOk q) (gc : Nat) (w : World) (hcd : CodAt w gc q) : Calls Tryz.prog 53 #[.pointer (some ⟨gc, 0, none⟩)] w fun r w' => r = .returned (.bool false) ∧ w = w' := by
  have c0 := hcd.cT
  have c1 := hcd.cV
  have c2 := hcd.cS
  have T0 := hq.T0
  have e0 : (q.T == 0) = false := beq_eq_false_iff_ne.2 (by omega)
  clear hcd
  go_enter Tryz.func53, Tryz.ntmps53
  go_wp2_with fail
  go_ret
  exact ⟨rfl, rfl⟩
def sizeD (T V S : Int) : Bool := decide (1 ≤ T) && decide (T ≤ 6) && decide (1 ≤ V) && decide (V ≤ 32) && decide (1 ≤ S) && decide (S ≤ V)
def newQ (T V S : Int) : Cd := ⟨T, V, S, 0, 0, fun _ => 0, fun _ => 0, fun _ => 0⟩
theorem newQ_ok {T V S : Int} (h : sizeD T V S = true) : CdOk (newQ T V S) := by
  simp only [sizeD, Bool.and_eq_true, decide_eq_true_eq] at h
  obtain ⟨⟨⟨⟨⟨h1, h2⟩, h3⟩, h4⟩, h5⟩, h6⟩ := h
  exact ⟨h1, h2, h3, h4, h5, h6, by simp [newQ], by simp only [newQ]; omega, by simp [newQ], by simp [newQ], by simp [newQ], by simp [newQ], by simp [newQ]⟩
set_option maxHeartbeats 1000000 in
theorem new_noD (T V S : Int) (h : sizeD T V S = false) (w : World) : Calls Tryz.prog 25 #[.int .i64 T, .int .i64 V, .int .i64 S] w fun r w' => r = .returned (.tuple #[.pointer none, .int .i64 1]) ∧ w = w' := by
  have HS := Lib.hid h
  clear h
  go_enter Tryz.func25, Tryz.ntmps25
  by_cases h1 : 1 ≤ T
  rotate_left
  · clear HS
    go_wp2_with fail
    go_ret2
    exact ⟨rfl, rfl⟩
  by_cases h2 : T ≤ 6
  rotate_left
  · clear HS
    go_wp2_with fail
    go_ret2
    exact ⟨rfl, rfl⟩
  by_cases h3 : 1 ≤ V
  rotate_left
  · clear HS
    go_wp2_with fail
    go_ret2
    exact ⟨rfl, rfl⟩
  by_cases h4 : V ≤ 32
  rotate_left
  · clear HS
    go_wp2_with fail
    go_ret2
    exact ⟨rfl, rfl⟩
  by_cases h5 : 1 ≤ S
  rotate_left
  · clear HS
    go_wp2_with fail
    go_ret2
    exact ⟨rfl, rfl⟩
  by_cases h6 : S ≤ V
  rotate_left
  · clear HS
    go_wp2_with fail
    go_ret2
    exact ⟨rfl, rfl⟩
  have := HS.out
  simp [sizeD, h1, h2, h3, h4, h5, h6] at this
set_option maxHeartbeats 2000000 in
theorem new_yesD (T V S : Int) (h : sizeD T V S = true) (w : World) : Calls Tryz.prog 25 #[.int .i64 T, .int .i64 V, .int .i64 S] w fun r w' => r = .returned (.tuple #[.pointer (some ⟨w.heap.size, 0, none⟩), .int .i64 0]) ∧ w' = w.alloc (.cells (rowC 49 (cellD (newQ T V S))) 102) := by
  simp only [sizeD, Bool.and_eq_true, decide_eq_true_eq] at h
  obtain ⟨⟨⟨⟨⟨h1, h2⟩, h3⟩, h4⟩, h5⟩, h6⟩ := h
  go_enter Tryz.func25, Tryz.ntmps25
  go_wp2_with fail
  go_ret2
  exact ⟨rfl, rfl⟩
end Go.Proofs.YteigglhhnemngaaGreatDoor
namespace Go.Proofs.YteigglhhnemngaaGreatDoor
set_option maxRecDepth 100000
open Go.RowKit Go.Deep
set_option linter.unusedVariables false
set_option linter.unusedSimpArgs false
theorem may_of {q : Cd} {e : Ev} (h : mayB e q.T q.V q.S = true) (hq : CdOk q) : 0 ≤ e.th ∧ e.th < q.T ∧ e.th < 6 ∧ MayK e q.V q.S := by
  obtain ⟨_, h2, h3⟩ := (may_iff e q.T q.V q.S).1 h
  have := hq.T1
  exact ⟨by omega, by omega, by omega, h3⟩
set_option maxHeartbeats 4000000 in
theorem may_anyD (q : Cd) (hq : CdOk q) (e : Ev) (ok' : EvOk e) (gc : Nat) (w : World) (hek : Ek w) (hcd : CodAt w gc q) :
    Calls Tryz.prog 54 #[.pointer (some ⟨gc, 0, none⟩), evV e] w fun r w' => r = .returned (.bool (mayT q e)) ∧ Below w.heap.size w w' := by
  obtain ⟨w1, hw1⟩ : ∃ w1, w.alloc (.cells (evC e) 50) = w1 := ⟨_, rfl⟩
  have hb1 : Below w.heap.size w w1 := by rw [← hw1]; exact (Below.refl _ _).alloc (Nat.le_refl _) _
  have he1 : EvO w1 w.heap.size e := by rw [← hw1]; exact heap_alloc_new w _
  have hc1 := hcd.below hb1
  have hM := fun w2 (hb : Below w1.heap.size w1 w2) => may_any e ok' q.T q.V q.S w2 (hek.below (hb1.trans (hb.mono hb1.size)))
  generalize hR : mayT q e = R
  have HR := Lib.hid hR
  have HB1 := Lib.hid hb1
  have HE1 := Lib.hid he1
  have HC1 := Lib.hid hc1
  have HM := Lib.hid hM
  have HQ := Lib.hid hq
  have HW := Lib.hid hw1
  clear hR hb1 he1 hc1 hM hek hcd hw1
  have HEV : Hid (evV e = .agg #[.int .u8 e.kd, .int .i64 e.th, .int .i64 e.tx, .int .i64 e.pl, .int .i64 e.v, .int .i64 e.x, .int .u8 e.why]) := rfl
  rw [HEV.out]
  by_cases hb : mayB e q.T q.V q.S = true
  rotate_left
  · have hb : mayB e q.T q.V q.S = false := by simpa using hb
    have hRR : R = false := by rw [← HR.out, mayT, hb, Bool.false_and]
    subst hRR
    have HM2 := Lib.hid (fun w2 hb2 => HM.out w2 hb2)
    rw [hb] at HM2
    clear HR HM hb ok'
    go_enter Tryz.func54, Tryz.ntmps54
    go_wp2_with fail
    rw [show w.alloc (.cells #[.int .u8 e.kd, .int .i64 e.th, .int .i64 e.tx, .int .i64 e.pl, .int .i64 e.v, .int .i64 e.x, .int .u8 e.why] 50) = w1 from HW.out]
    refine rgMay1f rfl _ (by simp) w1 gc w.heap.size q e HE1.out HC1.out HM2.out rfl rfl ?_
    intro w2 b2
    simp only [putAll, List.setIfInBounds_toArray, List.set_cons_succ, List.set_cons_zero]
    go_wp2_with fail
    go_ret
    exact ⟨rfl, HB1.out.trans (b2.mono HB1.out.size)⟩
  · have HM2 := Lib.hid (fun w2 hb2 => HM.out w2 hb2)
    rw [hb] at HM2
    obtain ⟨h0, h1, h2, hk⟩ := may_of hb hq
    obtain ⟨t, ht⟩ : ∃ t : Nat, e.th = t := ⟨e.th.toNat, by omega⟩
    have htn : e.th.toNat = t := by omega
    have ht6 : t < 6 := by omega
    have HR2 : Hid ((if e.kd = 1 then decide (q.clk ≤ e.v) else if e.kd = 2 then decide (e.v ≤ q.bg t) else if e.kd = 5 then decide (q.clk < e.v) else if e.kd = 7 then (e.v == 0 || e.v == q.bp t) else true) = R) := by
      show _ = _
      rw [← HR.out, mayT, hb, Bool.true_and, htn]
    have HT := Lib.hid ht
    have hkr : 1 ≤ e.kd ∧ e.kd ≤ 13 := by
      unfold MayK at hk
      omega
    obtain ⟨kk, hkk⟩ : ∃ kk, e.kd = kk := ⟨_, rfl⟩
    have HKK := Lib.hid hkk
    rw [hkk] at hkr HR2
    clear HR HM hb h0 h1 h2 hk htn ht hkk
    go_enter Tryz.func54, Tryz.ntmps54
    go_wp2_with fail
    rw [show w.alloc (.cells #[.int .u8 e.kd, .int .i64 e.th, .int .i64 e.tx, .int .i64 e.pl, .int .i64 e.v, .int .i64 e.x, .int .u8 e.why] 50) = w1 from HW.out]
    refine rgMay1t rfl _ (by simp) w1 gc w.heap.size q e HE1.out HC1.out HM2.out rfl rfl ?_
    intro w2 b2
    simp only [putAll, List.setIfInBounds_toArray, List.set_cons_succ, List.set_cons_zero]
    have E2 := Lib.hid (HE1.out.below b2)
    have C2 := Lib.hid (HC1.out.below b2)
    have B2 := Lib.hid (HB1.out.trans (b2.mono HB1.out.size))
    clear b2 HE1 HC1 HB1 HM2
    go_wp2_with fail
    refine rgMay3 rfl _ (by simp) w2 gc w.heap.size t ht6 q e E2.out HT.out C2.out rfl rfl ?_
    rintro w3 ⟨b3, r3⟩
    simp only [putAll, List.setIfInBounds_toArray, List.set_cons_succ, List.set_cons_zero]
    have E3 := Lib.hid (E2.out.below b3)
    have C3 := Lib.hid (C2.out.below b3)
    have B3 := Lib.hid (B2.out.trans (b3.mono B2.out.size))
    obtain ⟨gt, hgt⟩ : ∃ g, g = w2.heap.size := ⟨_, rfl⟩
    rw [← hgt] at r3 ⊢
    obtain ⟨ge, hge⟩ : ∃ g, g = w.heap.size := ⟨_, rfl⟩
    rw [← hge] at E3 ⊢
    have f0 : w3.cell? ⟨ge, 0, none⟩ = some (.int .u8 kk) := by rw [← HKK.out]; exact E3.out.c0
    have f4 : w3.cell? ⟨ge, 4, none⟩ = some (.int .i64 e.v) := E3.out.c4
    have fc : w3.cell? ⟨gc, 4, none⟩ = some (.int .i64 q.clk) := C3.out.cc
    have t0 : w3.cell? ⟨gt, 0, none⟩ = some (.int .i64 (q.bg t)) := (cell_of_row w3 gt 0 _ _ _ r3)
    have t1 : w3.cell? ⟨gt, 1, none⟩ = some (.int .i64 (q.bp t)) := (cell_of_row w3 gt 1 _ _ _ r3)
    clear b3 r3 E2 C2 hgt hge HW
    generalize q.bg t = bg at *
    generalize q.bp t = bp at *
    by_cases k1 : kk = 1
    · subst k1
      obtain ⟨b, hb⟩ : ∃ b, decide (q.clk ≤ e.v) = b := ⟨_, rfl⟩
      have hRR : R = b := by rw [← HR2.out]; exact hb
      subst hRR
      clear HR2 hkr
      go_wp2_with fail
      go_quiet (fail)
      go_wp2_with fail
      go_ret
      exact ⟨rfl, (B3.out.trans ((drewN_belowW w3 _).mono B3.out.size))⟩
    by_cases k2 : kk = 2
    · subst k2
      obtain ⟨b, hb⟩ : ∃ b, decide (e.v ≤ bg) = b := ⟨_, rfl⟩
      have hRR : R = b := by rw [← HR2.out]; exact hb
      subst hRR
      clear HR2 hkr
      go_wp2_with fail
      go_ret
      exact ⟨rfl, B3.out⟩
    by_cases k5 : kk = 5
    · subst k5
      obtain ⟨b, hb⟩ : ∃ b, decide (q.clk < e.v) = b := ⟨_, rfl⟩
      have hRR : R = b := by rw [← HR2.out]; exact hb
      subst hRR
      clear HR2 hkr
      go_wp2_with fail
      go_quiet (fail)
      go_wp2_with fail
      go_ret
      exact ⟨rfl, (B3.out.trans ((drewN_belowW w3 _).mono B3.out.size))⟩
    by_cases k7 : kk = 7
    · subst k7
      have hRR : R = (e.v == 0 || e.v == bp) := by rw [← HR2.out]; rfl
      clear HR2 hkr
      by_cases hv0 : e.v = 0
      · have q0 : (e.v == 0) = true := by simpa using hv0
        rw [q0, Bool.true_or] at hRR
        subst hRR
        clear hv0
        go_wp2_with fail
        go_ret
        exact ⟨rfl, B3.out⟩
      · have q0 : (e.v == 0) = false := beq_eq_false_iff_ne.2 hv0
        rw [q0, Bool.false_or] at hRR
        obtain ⟨b, hb⟩ : ∃ b, (e.v == bp) = b := ⟨_, rfl⟩
        rw [hb] at hRR
        subst hRR
        clear hv0
        go_wp2_with fail
        go_ret
        exact ⟨rfl, B3.out⟩
    have hRR : R = true := by rw [← HR2.out, if_neg k1, if_neg k2, if_neg k5, if_neg k7]
    subst hRR
    have q1 : (kk == 1) = false := beq_eq_false_iff_ne.2 k1
    have q2 : (kk == 2) = false := beq_eq_false_iff_ne.2 k2
    have q5 : (kk == 5) = false := beq_eq_false_iff_ne.2 k5
    have q7 : (kk == 7) = false := beq_eq_false_iff_ne.2 k7
    clear HR2 hkr k1 k2 k5 k7
    go_wp2_with fail
    go_ret
    exact ⟨rfl, B3.out⟩
end Go.Proofs.YteigglhhnemngaaGreatDoor
namespace Go.Proofs.YteigglhhnemngaaGreatDoor
set_option maxRecDepth 100000
open Go.RowKit Go.Deep
set_option linter.unusedVariables false
set_option linter.unusedSimpArgs false
set_option maxHeartbeats 4000000 in
theorem know_anyD (q : Cd) (e : Ev) (gc : Nat) (w : World) (hcd : CodAt w gc q) (hth : 0 ≤ e.th ∧ e.th < 6) (hpl : e.kd = 3 ∨ e.kd = 8 → 0 ≤ e.pl ∧ e.pl < 32) :
    Calls Tryz.prog 57 #[.pointer (some ⟨gc, 0, none⟩), evV e] w fun r w' => r = .returned (.tuple #[]) ∧ CodAt w' gc (knowQ q e) ∧ Kp gc none w w' := by
  have hlt := hcd.lt
  have d3 := hcd.cl
  have d4 := hcd.fr 3
  have hne : w.heap.size ≠ gc := by have := hcd.lt; omega
  obtain ⟨w2, hw2⟩ : ∃ w2, (w.setCell ⟨gc, 3, none⟩ (.int .i64 e.th)).alloc (.cells (evC e) 50) = w2 := ⟨_, rfl⟩
  have hb1 : Below (w.setCell ⟨gc, 3, none⟩ (.int .i64 e.th)).heap.size (w.setCell ⟨gc, 3, none⟩ (.int .i64 e.th)) w2 := by rw [← hw2]; exact (Below.refl _ _).alloc (Nat.le_refl _) _
  have he2 : EvO w2 w.heap.size e := by
    have h9 := heap_alloc_new (w.setCell ⟨gc, 3, none⟩ (.int .i64 e.th)) (.cells (evC e) 50 (0, 0))
    rw [show (w.setCell ⟨gc, 3, none⟩ (.int .i64 e.th)).heap.size = w.heap.size by simp [World.setCell]] at h9
    rw [← hw2]
    exact h9
  have hc1 : CodAt (w.setCell ⟨gc, 3, none⟩ (.int .i64 e.th)) gc { q with last := e.th } := hcd.set (by omega) e.th (fun j hj => put_last e.th j hj)
  have hc2 := hc1.below hb1
  have K2 := Lib.hid ((kp_set w gc 3 (.int .i64 e.th)).trans (kp_below hb1))
  obtain ⟨t, ht⟩ : ∃ t : Nat, e.th = t := ⟨e.th.toNat, by omega⟩
  have htn : e.th.toNat = t := by omega
  have ht6 : t < 6 := by omega
  have HPL := Lib.hid hpl
  generalize hR : knowQ q e = R
  have HR : Hid ((⟨q.T, q.V, q.S, e.th, if e.kd = 1 ∨ e.kd = 5 then e.v else q.clk, if e.kd = 1 then put q.bg t e.v else q.bg, if e.kd = 5 then put q.bp t e.v else q.bp, if e.kd = 3 ∨ e.kd = 8 then put q.xs e.pl.toNat e.x else q.xs⟩ : Cd) = R) := by
    show _ = _
    rw [← hR, knowQ, htn]
  have HE2 := Lib.hid he2
  have HC2 := Lib.hid hc2
  have HT := Lib.hid ht
  have HW := Lib.hid hw2
  obtain ⟨kk, hkk⟩ : ∃ kk, e.kd = kk := ⟨_, rfl⟩
  have HKK := Lib.hid hkk
  rw [hkk] at HPL HR
  have HEV : Hid (evV e = .agg #[.int .u8 e.kd, .int .i64 e.th, .int .i64 e.tx, .int .i64 e.pl, .int .i64 e.v, .int .i64 e.x, .int .u8 e.why]) := rfl
  rw [HEV.out]
  have hgg := Lib.hid hne
  clear hR hb1 hc1 hw2 hc2 he2 htn ht hkk hpl hth hne hcd
  go_enter Tryz.func57, Tryz.ntmps57
  go_wp2_with fail
  rw [show (w.setCell ⟨gc, 3, none⟩ (.int .i64 e.th)).alloc (.cells #[.int .u8 e.kd, .int .i64 e.th, .int .i64 e.tx, .int .i64 e.pl, .int .i64 e.v, .int .i64 e.x, .int .u8 e.why] 50) = w2 from HW.out]
  obtain ⟨ge, hge⟩ : ∃ g, g = w.heap.size := ⟨_, rfl⟩
  rw [← hge] at HE2 hgg ⊢
  have f1 : w2.cell? ⟨ge, 1, none⟩ = some (.int .i64 (t : Int)) := by rw [← HT.out]; exact HE2.out.c1
  have i1 : (0 : Int) ≤ (t : Int) := by omega
  have i2 : (t : Int) < 6 := by omega
  clear hge HW hlt d3 d4
  go_quiet (fail)
  generalize hw3 : w2.drewN _ = w3
  have hd : Below w2.heap.size w2 w3 := by rw [← hw3]; exact drewN_belowW w2 _
  have E3 := Lib.hid (HE2.out.below hd)
  have C3 := Lib.hid (HC2.out.below hd)
  have K3 := Lib.hid (K2.out.trans (kp_below hd))
  have f0 : w3.cell? ⟨ge, 0, none⟩ = some (.int .u8 kk) := by rw [← HKK.out]; exact E3.out.c0
  clear hw3 f1 hd HE2 HC2 K2
  by_cases k1 : kk = 1
  · subst k1
    have hRR : (⟨q.T, q.V, q.S, e.th, e.v, put q.bg t e.v, q.bp, q.xs⟩ : Cd) = R := by rw [← HR.out]; rfl
    clear HR HPL
    go_wp2_with fail
    refine rgKnow5 rfl _ (by simp) w3 gc ge t ht6 hgg.out _ e E3.out C3.out rfl rfl rfl ?_
    rintro w4 ⟨x1, x2⟩
    simp only [putAll, List.setIfInBounds_toArray, List.set_cons_succ, List.set_cons_zero]
    go_wp2_with fail
    go_end0
    exact ⟨rfl, by rw [← hRR]; exact x1, K3.out.trans x2⟩
  by_cases k5 : kk = 5
  · subst k5
    have hRR : (⟨q.T, q.V, q.S, e.th, e.v, q.bg, put q.bp t e.v, q.xs⟩ : Cd) = R := by rw [← HR.out]; rfl
    clear HR HPL
    go_wp2_with fail
    refine rgKnow7 rfl _ (by simp) w3 gc ge t ht6 hgg.out _ e E3.out C3.out rfl rfl rfl ?_
    rintro w4 ⟨x1, x2⟩
    simp only [putAll, List.setIfInBounds_toArray, List.set_cons_succ, List.set_cons_zero]
    go_wp2_with fail
    go_end0
    exact ⟨rfl, by rw [← hRR]; exact x1, K3.out.trans x2⟩
  by_cases k38 : kk = 3 ∨ kk = 8
  · obtain ⟨hp0, hp1⟩ := HPL.out k38
    obtain ⟨v, hv⟩ : ∃ v : Nat, e.pl = v := ⟨e.pl.toNat, by omega⟩
    have hvn : e.pl.toNat = v := by omega
    have hRR : (⟨q.T, q.V, q.S, e.th, q.clk, q.bg, q.bp, put q.xs v e.x⟩ : Cd) = R := by
      rw [← HR.out, if_neg (by omega), if_neg k1, if_neg k5, if_pos k38, hvn]
    have HV := Lib.hid hv
    have hv32 : v < 32 := by omega
    clear HR HPL hp0 hp1 hv hvn k1 k5
    rcases k38 with rfl | rfl
    · go_wp2_with fail
      refine rgKnow10 rfl _ (by simp) w3 gc ge v hv32 hgg.out _ e E3.out HV.out C3.out rfl rfl ?_
      rintro w4 ⟨x1, x2⟩
      simp only [putAll, List.setIfInBounds_toArray, List.set_cons_succ, List.set_cons_zero]
      go_wp2_with fail
      go_end0
      exact ⟨rfl, by rw [← hRR]; exact x1, K3.out.trans x2⟩
    · go_wp2_with fail
      refine rgKnow10 rfl _ (by simp) w3 gc ge v hv32 hgg.out _ e E3.out HV.out C3.out rfl rfl ?_
      rintro w4 ⟨x1, x2⟩
      simp only [putAll, List.setIfInBounds_toArray, List.set_cons_succ, List.set_cons_zero]
      go_wp2_with fail
      go_end0
      exact ⟨rfl, by rw [← hRR]; exact x1, K3.out.trans x2⟩
  have hRR : (⟨q.T, q.V, q.S, e.th, q.clk, q.bg, q.bp, q.xs⟩ : Cd) = R := by
    rw [← HR.out, if_neg (by omega), if_neg k1, if_neg k5, if_neg k38]
  have q1 : (kk == 1) = false := beq_eq_false_iff_ne.2 k1
  have q5 : (kk == 5) = false := beq_eq_false_iff_ne.2 k5
  have q3 : (kk == 3) = false := beq_eq_false_iff_ne.2 (fun h => k38 (.inl h))
  have q8 : (kk == 8) = false := beq_eq_false_iff_ne.2 (fun h => k38 (.inr h))
  clear HR HPL k1 k5 k38
  go_wp2_with fail
  go_end0
  exact ⟨rfl, by rw [← hRR]; exact C3.out, K3.out⟩
def BoxS (gt : Nat) (s : List UInt8) (w : World) : Prop := w.heap[gt]? = some (.cells #[.string (bs s)] 9 (0, 0))
def numW (s : List UInt8) (n l m : Int) : Int × List UInt8 := (n, s ++ Vm.put n.toNat)
def okW (s : List UInt8) (n l m : Int) : Prop := 0 ≤ n ∧ n ≤ m ∧ m < 18446744073709551616 ∧ s.length ≤ 100
set_option maxHeartbeats 1000000 in
theorem put_clo (gt : Nat) (s : List UInt8) (n l m : Int) (w : World) (hs : s.length ≤ 100) (h0 : 0 ≤ n) (h1 : n < 18446744073709551616) (hr : BoxS gt s w) :
    Calls Tryz.prog 56 #[.int .u64 n, .int .u64 l, .int .u64 m, .pointer (some ⟨gt, 0, none⟩)] w fun r w' => r = .returned (.int .u64 n) ∧ BoxS gt (s ++ Vm.put n.toNat) w' ∧ Kp gt none w w' := by
  have hl := Vm.put_len n.toNat
  have HC : ∀ W : World, Calls Tryz.prog 52 #[.int .u64 n] W fun r w' => r = .returned (.string (putS n.toNat)) ∧ Below W.heap.size W w' := fun W => by
    have := put_s n.toNat (by omega) W
    rwa [Int.toNat_of_nonneg h0] at this
  have hz1 : (bs s).size ≤ 1000 := by rw [bs_size]; omega
  have hz2 : (putS n.toNat).size ≤ 1000 := by rw [putS_size]; omega
  have e1 : bs s ++ putS n.toNat = bs (s ++ Vm.put n.toNat) := by
    apply ByteArray.ext
    unfold bs putS
    simp
  have HR := Lib.hid hr
  have HH := Lib.hid HC
  clear HC hr hl
  go_enter Tryz.func56, Tryz.ntmps56
  go_wp2_with fail
  refine rgPut rfl _ (by simp) w gt (bs s) (putS n.toNat) n hz1 hz2 HR.out HH.out rfl rfl ?_
  rintro w1 ⟨x1, x2⟩
  simp only [putAll, List.setIfInBounds_toArray, List.set_cons_succ, List.set_cons_zero]
  go_wp2_with fail
  go_ret
  exact ⟨rfl, by rw [e1] at x1; exact x1, x2⟩
theorem numC_w (gt ge gc : Nat) (h1 : gt ≠ ge) (h2 : gt ≠ gc) (h3 : ge ≠ gc) : NumC (k := 56) (P := ⟨gt, 0, none⟩) (gF := gt) (ge := ge) (gc := gc) (BoxS gt) numW okW where
  is := .inl rfl
  fe := h1
  fc := h2
  ec := h3
  call := fun s w n l m hI ho g0 g1 => put_clo gt s n l m w ho.2.2.2 g0 g1 hI
  le := fun s n l m ho => ⟨ho.1, ho.2.1⟩
  stay := fun s w w' hI hk => by
    have hlt : gt < w.heap.size := (Array.getElem?_eq_some_iff.1 hI).1
    exact (hk.block gt hlt h1 (by simp)).trans hI
end Go.Proofs.YteigglhhnemngaaGreatDoor
