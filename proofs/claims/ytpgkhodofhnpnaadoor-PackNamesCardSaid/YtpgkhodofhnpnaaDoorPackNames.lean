/-
  PackNames (the examples of chapter 7): the call returns true; as its TIED CARD (code's and pack's tables lie as the program's text lays them). Condition: the row's own (laid).
-/
import Derived.Test.YtpgkhodofhnpnaaDoorPny
import Derived.Test.YtpgkhodofhnpnaaDoorPla
import Derived.ChangeMaps5
namespace Go.Proofs.YtpgkhodofhnpnaaDoor
set_option maxRecDepth 100000
open Go.ChangeShapes Go.WideShapes Go.ChangeAt Go.RowKit Go.WideElems Go.WideMaps Go.ChangeMaps
set_option linter.unusedVariables false
theorem alloc_sz (w : World) (o : Go.Obj) : (w.alloc o).heap.size = w.heap.size + 1 := by simp
def nmW (w : World) : World := (((w.alloc (.cells #[.int .u8 1, .int .i64 (-3), .slice none 0 0] 25)).alloc (.cells #[.int .u8 2, .int .i64 7, .slice none 0 0] 25)).alloc (.cells #[.int .u8 1, .int .i64 (-3), .slice none 0 0, .int .u8 2, .int .i64 7, .slice none 0 0] 25)).alloc (.cells #[.int .u8 4, .int .i64 0, .slice (some ⟨w.heap.size + 1 + 1, 0, none⟩) 2 2] 25)
theorem nmW_size (w : World) : (nmW w).heap.size = w.heap.size + 4 := by simp [nmW]
theorem nmW_below (w : World) : Below w.heap.size w (nmW w) := ((((Below.refl _ _).alloc (Nat.le_refl _) _).alloc (by simp) _).alloc (by simp; omega) _).alloc (by simp; omega) _
/-- What lies there of the literals. -/
structure NM (w W : World) : Prop where
  lit : Obj W w.heap.size 25 #[.int .u8 1, .int .i64 (-3), .slice none 0 0]
  loc : Obj W (w.heap.size + 1) 25 #[.int .u8 2, .int .i64 7, .slice none 0 0]
  row : Obj W (w.heap.size + 1 + 1) 25 #[.int .u8 1, .int .i64 (-3), .slice none 0 0, .int .u8 2, .int .i64 7, .slice none 0 0]
  sum : Obj W (w.heap.size + 1 + 1 + 1) 25 #[.int .u8 4, .int .i64 0, .slice (some ⟨w.heap.size + 1 + 1, 0, none⟩) 2 2]
theorem NM.start (w : World) : NM w (nmW w) := by
  have o1 := Obj.made w 25 #[.int .u8 1, .int .i64 (-3), .slice none 0 0]
  have o2 := Obj.made (w.alloc (.cells #[.int .u8 1, .int .i64 (-3), .slice none 0 0] 25)) 25 #[.int .u8 2, .int .i64 7, .slice none 0 0]
  have o3 := Obj.made ((w.alloc (.cells #[.int .u8 1, .int .i64 (-3), .slice none 0 0] 25)).alloc (.cells #[.int .u8 2, .int .i64 7, .slice none 0 0] 25)) 25 #[.int .u8 1, .int .i64 (-3), .slice none 0 0, .int .u8 2, .int .i64 7, .slice none 0 0]
  have o4 := Obj.made (((w.alloc (.cells #[.int .u8 1, .int .i64 (-3), .slice none 0 0] 25)).alloc (.cells #[.int .u8 2, .int .i64 7, .slice none 0 0] 25)).alloc (.cells #[.int .u8 1, .int .i64 (-3), .slice none 0 0, .int .u8 2, .int .i64 7, .slice none 0 0] 25)) 25 #[.int .u8 4, .int .i64 0, .slice (some ⟨w.heap.size + 1 + 1, 0, none⟩) 2 2]
  simp only [alloc_sz] at o2 o3 o4
  exact ⟨((o1.more _).more _).more _, (o2.more _).more _, o3.more _, o4⟩
theorem NM.below {w W W' : World} (h : NM w W) (hb : Below W.heap.size W W') : NM w W' := ⟨h.lit.below hb h.lit.lt, h.loc.below hb h.loc.lt, h.row.below hb h.row.lt, h.sum.below hb h.sum.lt⟩
set_option maxRecDepth 100000 in
set_option maxHeartbeats 4000000 in
theorem PackNames_walk (w : World) (hkd : Kd w) (hpt : Pt w) :
    Calls Tryd.prog 3 #[] w fun e w' => e = .returned (.bool true) ∧ Below w.heap.size w w' := by
  have HKD := Lib.hid (fun (w1 : World) (b1 : Below w.heap.size w w1) => hkd.below b1 (Nat.le_refl _))
  have HPT := Lib.hid (fun (w1 : World) (b1 : Below w.heap.size w w1) => hpt.below b1 (Nat.le_refl _))
  have HW := Lib.hid (works_any w hkd hpt)
  have HBA := Lib.hid (fun w => bare_any w)
  clear hkd hpt
  go_enter Tryd.func3, Tryd.ntmps3
  go_wp2_with fail
  refine HW.out.mono ?_
  rintro _ w1 ⟨rfl, b1⟩
  have B1 := Lib.hid b1
  clear b1
  go_wp2_with fail
  have hnw : ((((w1.alloc (.cells #[.int .u8 1, .int .i64 (-3), .slice none 0 0] 25)).alloc (.cells #[.int .u8 2, .int .i64 7, .slice none 0 0] 25)).alloc (.cells #[.int .u8 1, .int .i64 (-3), .slice none 0 0, .int .u8 2, .int .i64 7, .slice none 0 0] 25)).alloc (.cells #[.int .u8 4, .int .i64 0, .slice (some ⟨w1.heap.size + 1 + 1, 0, none⟩) 2 2] 25)) = nmW w1 := rfl
  rw [hnw]
  clear hnw
  have hnm := NM.start w1
  have hnz := nmW_size w1
  have hnb := B1.out.trans ((nmW_below w1).mono B1.out.size)
  obtain ⟨W1, hW1⟩ : ∃ W, W = nmW w1 := ⟨_, rfl⟩
  rw [← hW1] at hnm hnz hnb ⊢
  clear hW1
  have BW := Lib.hid hnb
  refine (HBA.out W1).mono ?_
  rintro _ w2 ⟨rfl, hw2⟩
  have hnm2 := hnm.below (by rw [hw2]; exact baW_below W1 : Below W1.heap.size W1 w2)
  have NM2 := Lib.hid hnm2
  have HW2 := Lib.hid hw2
  have HNZ := Lib.hid hnz
  have B2 := Lib.hid (BW.out.trans ((by rw [hw2]; exact baW_below W1 : Below W1.heap.size W1 w2).mono BW.out.size))
  have z2 : w2.heap.size = W1.heap.size + 2 := by rw [hw2]; exact baW_size W1
  have HZ2 := Lib.hid z2
  obtain ⟨bD, hD⟩ : ∃ b, b = w1.heap.size + 1 + 1 + 1 := ⟨_, rfl⟩
  obtain ⟨bC, hC⟩ : ∃ b, b = w1.heap.size + 1 + 1 := ⟨_, rfl⟩
  obtain ⟨bB, hB⟩ : ∃ b, b = w1.heap.size + 1 := ⟨_, rfl⟩
  obtain ⟨bA, hA⟩ : ∃ b, b = w1.heap.size := ⟨_, rfl⟩
  obtain ⟨bE, hE⟩ : ∃ b, b = W1.heap.size + 1 := ⟨_, rfl⟩
  rw [← hD, ← hC, ← hB, ← hA, ← hE]
  have q1 := hnm2.lit
  have q2 := hnm2.loc
  have q3 := hnm2.row
  have q4 := hnm2.sum
  rw [← hD, ← hC] at q4
  rw [← hC] at q3
  rw [← hB] at q2
  rw [← hA] at q1
  have l0 : w2.cell? ⟨bA, 0, none⟩ = some (.int .u8 1) := q1.cell 0
  have l1 : w2.cell? ⟨bA, 1, none⟩ = some (.int .i64 (-3)) := q1.cell 1
  have l2 : w2.cell? ⟨bA, 2, none⟩ = some (.slice none 0 0) := q1.cell 2
  have m0 : w2.cell? ⟨bB, 0, none⟩ = some (.int .u8 2) := q2.cell 0
  have m1 : w2.cell? ⟨bB, 1, none⟩ = some (.int .i64 7) := q2.cell 1
  have m2 : w2.cell? ⟨bB, 2, none⟩ = some (.slice none 0 0) := q2.cell 2
  have s0 : w2.cell? ⟨bD, 0, none⟩ = some (.int .u8 4) := q4.cell 0
  have s1 : w2.cell? ⟨bD, 1, none⟩ = some (.int .i64 0) := q4.cell 1
  have s2 : w2.cell? ⟨bD, 2, none⟩ = some (.slice (some ⟨bC, 0, none⟩) 2 2) := q4.cell 2
  have y0 := q1.lt
  have y1 := q2.lt
  have y2 := q4.lt
  have Q3 := Lib.hid q3
  have hEo : Obj w2 bE 2 #[.int .i64 5] := by rw [hE, hw2]; exact baW_int W1
  have hEX := encX_any w2 bC bE q3 hEo (HKD.out _ B2.out) (HPT.out _ B2.out)
  unfold xW at hEX
  have HEX := Lib.hid hEX
  clear hEX hEo
  have y3 : bA < w2.heap.size + 1 := by omega
  have y4 : bA < w2.heap.size + 1 + 1 := by omega
  have y5 : bA < w2.heap.size + 1 + 1 + 1 := by omega
  have y6 : bA < w2.heap.size + 2 := by omega
  have y7 : bA < w2.heap.size + 3 := by omega
  have HABC := Lib.hid (And.intro hA (And.intro hB (And.intro hC (And.intro hD hE))))
  clear q1 q2 q3 q4 hA hB hC hD hE
  clear hnm hnm2 hw2 hnz hnb z2
  go_wp2_with fail
  refine HEX.out.mono ?_
  rintro _ w3 ⟨rfl, xs⟩
  have XS3 := Lib.hid xs
  have HSB : Hid (∀ w4, Below w3.heap.size w3 w4 → Calls Tryd.prog 9 #[.agg #[.int .i64 1, .int .i64 300, .int .i64 1, .slice (some ⟨bE, 0, none⟩) 1 1, .slice (some ⟨w2.heap.size + 1 + 1 + 1 + 1 + 1 + 1 + 1 + 1, 0, none⟩) 2 2]] w4 fun e w' => e = .returned (.bool true) ∧ Below w4.heap.size w4 w') := fun w4 b4 => backX_any w2 w4 bE (XS3.out.below b4) (HKD.out _ B2.out) (HPT.out _ B2.out)
  obtain ⟨bT, hT⟩ : ∃ b, b = w2.heap.size + 1 + 1 + 1 + 1 + 1 + 1 + 1 + 1 := ⟨_, rfl⟩
  have HOX : Hid (∀ w4, Below w3.heap.size w3 w4 → Obj w4 w2.heap.size 29 #[.int .i64 1, .int .i64 300, .int .i64 1, .slice (some ⟨bE, 0, none⟩) 1 1, .slice (some ⟨bT, 0, none⟩) 2 2]) := fun w4 b4 => by rw [hT]; exact (XS3.out.below b4).obj
  have B3 : Hid (Below w.heap.size w w3) := Lib.hid (B2.out.trans (xs.bel.mono B2.out.size))
  rw [← hT] at HSB ⊢
  clear hT
  obtain ⟨bX, hX⟩ : ∃ b, b = w2.heap.size := ⟨_, rfl⟩
  rw [← hX] at HOX ⊢
  clear hX
  have HFR : Hid (∀ w1, Calls Tryd.prog 8 #[.string ⟨#[1, 10, 1, 172, 2, 1, 2, 0, 2, 1, 8, 1, 5, 6, 1, 2, 3, 0, 2, 1, 4, 1, 5, 2, 7, 3, 1, 5, 2, 7, 4, 2, 7, 1, 6, 2, 6, 6, 5, 1, 5, 1, 6, 7, 0, 1, 6]⟩] w1 fun e w' => e = .returned (.string (frameS (bs xBytes))) ∧ Below w1.heap.size w1 w') := fun w1 => framed_any (bs xBytes) (by decide) w1
  obtain ⟨F, hF⟩ : ∃ F, F = frameS (bs xBytes) := ⟨_, rfl⟩
  rw [← hF] at HFR ⊢
  have hFF : (F.toList == F.toList) = true := by simp
  clear xs hF
  clear l0 l1 l2 m0 m1 m2 s0 s1 s2 y0 y1 y2 y3 y4 y5 y6
  go_wp2_with fail
  refine (HFR.out w3).mono ?_
  rintro _ w4 ⟨rfl, b4⟩
  have o4 := HOX.out w4 b4
  have x0 : w4.cell? ⟨bX, 0, none⟩ = some (.int .i64 1) := o4.cell 0
  have x1 : w4.cell? ⟨bX, 1, none⟩ = some (.int .i64 300) := o4.cell 1
  have x2 : w4.cell? ⟨bX, 2, none⟩ = some (.int .i64 1) := o4.cell 2
  have x3 : w4.cell? ⟨bX, 3, none⟩ = some (.slice (some ⟨bE, 0, none⟩) 1 1) := o4.cell 3
  have x4 : w4.cell? ⟨bX, 4, none⟩ = some (.slice (some ⟨bT, 0, none⟩) 2 2) := o4.cell 4
  have x9 := o4.lt
  have H4 := Lib.hid (HSB.out w4 b4)
  have B4 := Lib.hid (B3.out.trans (b4.mono B3.out.size))
  clear b4 o4
  go_wp2_with fail
  refine H4.out.mono ?_
  rintro _ w5 ⟨rfl, b5⟩
  have B5 := Lib.hid (B4.out.trans (b5.mono B4.out.size))
  clear b5 x0 x1 x2 x3 x4 x9 H4
  go_wp2_with fail
  refine (HBA.out w5).mono ?_
  rintro _ w6 ⟨rfl, hw6⟩
  have hEB := encB_any (w6.alloc (.cells #[.int .i64 2, .int .i64 0, .int .i64 1, .slice (some ⟨w5.heap.size + 1, 0, none⟩) 1 1, .slice none 0 0] 29)) (w5.heap.size + 1) (by rw [hw6]; exact (baW_int w5).more _) (HKD.out _ (by rw [hw6]; exact (B5.out.trans ((baW_below w5).mono B5.out.size)).alloc (B5.out.trans ((baW_below w5).mono B5.out.size)).size _))
  have B6 : Hid (Below w.heap.size w w6) := by show Below _ _ _; rw [hw6]; exact B5.out.trans ((baW_below w5).mono B5.out.size)
  obtain ⟨bF, hbF⟩ : ∃ b, b = w5.heap.size + 1 := ⟨_, rfl⟩
  rw [← hbF] at hEB ⊢
  clear hbF hw6
  have HEB := Lib.hid hEB
  clear hEB
  go_wp2_with fail
  have cc0 : (⟨#[1, 10, 1, 0, 1]⟩ : ByteArray) ++ ⟨#[1, 1, 1]⟩ = ⟨#[1, 10, 1, 0, 1, 1, 1, 1]⟩ := by kernel_rfl
  have cc8 : (⟨#[1, 10, 1, 0, 1]⟩ : ByteArray) ++ ⟨#[7]⟩ = ⟨#[1, 10, 1, 0, 1, 7]⟩ := by kernel_rfl
  have cc10 : (⟨#[1, 10, 1, 0, 1]⟩ : ByteArray) ++ ⟨#[0, 0]⟩ = ⟨#[1, 10, 1, 0, 1, 0, 0]⟩ := by kernel_rfl
  have cc11 : (⟨#[1, 10, 1, 0, 1]⟩ : ByteArray) ++ ⟨#[128, 0]⟩ = ⟨#[1, 10, 1, 0, 1, 128, 0]⟩ := by kernel_rfl
  have cc12 : (⟨#[1, 10, 1, 0, 1, 1, 1, 1]⟩ : ByteArray) ++ ⟨#[0]⟩ = ⟨#[1, 10, 1, 0, 1, 1, 1, 1, 0]⟩ := by kernel_rfl
  have cc13 : (⟨#[1, 10, 1, 0, 1, 1, 1, 1]⟩ : ByteArray) ++ ⟨#[9]⟩ = ⟨#[1, 10, 1, 0, 1, 1, 1, 1, 9]⟩ := by kernel_rfl
  have cc14 : (⟨#[1, 10, 1, 0, 1, 1, 1, 1]⟩ : ByteArray) ++ ⟨#[1, 8]⟩ = ⟨#[1, 10, 1, 0, 1, 1, 1, 1, 1, 8]⟩ := by kernel_rfl
  have cc15 : (⟨#[1, 10, 1, 0, 1, 1, 1, 1]⟩ : ByteArray) ++ ⟨#[8, 0]⟩ = ⟨#[1, 10, 1, 0, 1, 1, 1, 1, 8, 0]⟩ := by kernel_rfl
  have cc16 : (⟨#[1, 10, 1, 0, 1, 1, 1, 1]⟩ : ByteArray) ++ ⟨#[8, 9]⟩ = ⟨#[1, 10, 1, 0, 1, 1, 1, 1, 8, 9]⟩ := by kernel_rfl
  have cc17 : (⟨#[1, 10, 1, 0, 1, 1, 1, 1]⟩ : ByteArray) ++ ⟨#[8, 2, 8]⟩ = ⟨#[1, 10, 1, 0, 1, 1, 1, 1, 8, 2, 8]⟩ := by kernel_rfl
  have cc18 : (⟨#[1, 10, 1, 0, 1, 1, 1, 1]⟩ : ByteArray) ++ ⟨#[8, 3, 6]⟩ = ⟨#[1, 10, 1, 0, 1, 1, 1, 1, 8, 3, 6]⟩ := by kernel_rfl
  have cc19 : (⟨#[1, 10, 1, 0, 1, 1, 1, 1]⟩ : ByteArray) ++ ⟨#[8, 3, 0]⟩ = ⟨#[1, 10, 1, 0, 1, 1, 1, 1, 8, 3, 0]⟩ := by kernel_rfl
  have cc20 : (⟨#[1, 10, 1, 0, 1, 1, 1, 1]⟩ : ByteArray) ++ ⟨#[8, 4, 1, 0]⟩ = ⟨#[1, 10, 1, 0, 1, 1, 1, 1, 8, 4, 1, 0]⟩ := by kernel_rfl
  have cc21 : (⟨#[1, 10, 1, 0, 1]⟩ : ByteArray) ++ ⟨#[1, 1, 41]⟩ = ⟨#[1, 10, 1, 0, 1, 1, 1, 41]⟩ := by kernel_rfl
  have cc50 : (⟨#[1, 10, 1, 0, 1, 1, 1, 1]⟩ : ByteArray) ++ ⟨#[8]⟩ = ⟨#[1, 10, 1, 0, 1, 1, 1, 1, 8]⟩ := by kernel_rfl
  refine HEB.out.mono ?_
  rintro _ w7 ⟨rfl, b7⟩
  have B7 := Lib.hid ((B6.out.alloc B6.out.size _).trans (b7.mono (by have := B6.out.size; simp; omega)))
  clear b7
  have HNO : Hid (∀ (a : ByteArray) (P : Int) (p : Nat) (er : Int) (w8 : World), Below w.heap.size w w8 → P = p → a.size ≤ 30000 → pBody a.data.toList (okF 14) = .error (p, er) → p ≤ 40000 → Calls Tryd.prog 10 #[.string a, .int .i64 P, .int .i64 er] w8 fun e w' => e = .returned (.bool true) ∧ Below w8.heap.size w8 w') := fun a P p er w8 b8 hP h1 h2 h3 => by
    subst hP
    exact no_any a h1 p er h2 h3 w8 (HKD.out _ b8) (HPT.out _ b8)
  go_wp2_with fail
  refine (HNO.out ⟨#[]⟩ 0 0 8 w7 B7.out rfl (by decide) (by kernel_rfl) (by decide)).mono ?_
  rintro _ w8 ⟨rfl, bb⟩
  have B8 := Lib.hid (B7.out.trans (bb.mono B7.out.size))
  clear bb
  go_wp2_with fail
  refine (HNO.out ⟨#[0]⟩ 0 0 20 w8 B8.out rfl (by decide) (by kernel_rfl) (by decide)).mono ?_
  rintro _ w9 ⟨rfl, bb⟩
  have B9 := Lib.hid (B8.out.trans (bb.mono B8.out.size))
  clear bb
  go_wp2_with fail
  refine (HNO.out ⟨#[33]⟩ 0 0 20 w9 B9.out rfl (by decide) (by kernel_rfl) (by decide)).mono ?_
  rintro _ w10 ⟨rfl, bb⟩
  have B10 := Lib.hid (B9.out.trans (bb.mono B9.out.size))
  clear bb
  go_wp2_with fail
  refine (HNO.out ⟨#[1, 10, 2]⟩ 2 2 20 w10 B10.out rfl (by decide) (by kernel_rfl) (by decide)).mono ?_
  rintro _ w11 ⟨rfl, bb⟩
  have B11 := Lib.hid (B10.out.trans (bb.mono B10.out.size))
  clear bb
  go_wp2_with fail
  refine (HNO.out ⟨#[1, 10, 0]⟩ 2 2 20 w11 B11.out rfl (by decide) (by kernel_rfl) (by decide)).mono ?_
  rintro _ w12 ⟨rfl, bb⟩
  have B12 := Lib.hid (B11.out.trans (bb.mono B11.out.size))
  clear bb
  go_wp2_with fail
  refine (HNO.out ⟨#[1, 10, 1, 0, 0]⟩ 4 4 20 w12 B12.out rfl (by decide) (by kernel_rfl) (by decide)).mono ?_
  rintro _ w13 ⟨rfl, bb⟩
  have B13 := Lib.hid (B12.out.trans (bb.mono B12.out.size))
  clear bb
  go_wp2_with fail
  refine (HNO.out ⟨#[1, 10, 1, 0, 233, 7]⟩ 4 4 20 w13 B13.out rfl (by decide) (by kernel_rfl) (by decide)).mono ?_
  rintro _ w14 ⟨rfl, bb⟩
  have B14 := Lib.hid (B13.out.trans (bb.mono B13.out.size))
  clear bb
  go_wp2_with fail
  refine (HNO.out ⟨#[1, 10, 1, 0, 1, 7]⟩ 5 5 20 w14 B14.out rfl (by decide) (by kernel_rfl) (by decide)).mono ?_
  rintro _ w15 ⟨rfl, bb⟩
  have B15 := Lib.hid (B14.out.trans (bb.mono B14.out.size))
  clear bb
  go_wp2_with fail
  refine (HNO.out ⟨#[1, 10, 1, 0, 1]⟩ 5 5 8 w15 B15.out rfl (by decide) (by kernel_rfl) (by decide)).mono ?_
  rintro _ w16 ⟨rfl, bb⟩
  have B16 := Lib.hid (B15.out.trans (bb.mono B15.out.size))
  clear bb
  go_wp2_with fail
  refine (HNO.out ⟨#[1, 10, 1, 0, 1, 0, 0]⟩ 6 6 10 w16 B16.out rfl (by decide) (by kernel_rfl) (by decide)).mono ?_
  rintro _ w17 ⟨rfl, bb⟩
  have B17 := Lib.hid (B16.out.trans (bb.mono B16.out.size))
  clear bb
  go_wp2_with fail
  refine (HNO.out ⟨#[1, 10, 1, 0, 1, 128, 0]⟩ 5 5 11 w17 B17.out rfl (by decide) (by kernel_rfl) (by decide)).mono ?_
  rintro _ w18 ⟨rfl, bb⟩
  have B18 := Lib.hid (B17.out.trans (bb.mono B17.out.size))
  clear bb
  go_wp2_with fail
  refine (HNO.out ⟨#[1, 10, 1, 0, 1, 1, 1, 1, 0]⟩ 8 8 20 w18 B18.out rfl (by decide) (by kernel_rfl) (by decide)).mono ?_
  rintro _ w19 ⟨rfl, bb⟩
  have B19 := Lib.hid (B18.out.trans (bb.mono B18.out.size))
  clear bb
  go_wp2_with fail
  refine (HNO.out ⟨#[1, 10, 1, 0, 1, 1, 1, 1, 9]⟩ 8 8 20 w19 B19.out rfl (by decide) (by kernel_rfl) (by decide)).mono ?_
  rintro _ w20 ⟨rfl, bb⟩
  have B20 := Lib.hid (B19.out.trans (bb.mono B19.out.size))
  clear bb
  go_wp2_with fail
  refine (HNO.out ⟨#[1, 10, 1, 0, 1, 1, 1, 1, 1, 8]⟩ 9 9 20 w20 B20.out rfl (by decide) (by kernel_rfl) (by decide)).mono ?_
  rintro _ w21 ⟨rfl, bb⟩
  have B21 := Lib.hid (B20.out.trans (bb.mono B20.out.size))
  clear bb
  go_wp2_with fail
  refine (HNO.out ⟨#[1, 10, 1, 0, 1, 1, 1, 1, 8, 0]⟩ 9 9 20 w21 B21.out rfl (by decide) (by kernel_rfl) (by decide)).mono ?_
  rintro _ w22 ⟨rfl, bb⟩
  have B22 := Lib.hid (B21.out.trans (bb.mono B21.out.size))
  clear bb
  go_wp2_with fail
  refine (HNO.out ⟨#[1, 10, 1, 0, 1, 1, 1, 1, 8, 9]⟩ 9 9 20 w22 B22.out rfl (by decide) (by kernel_rfl) (by decide)).mono ?_
  rintro _ w23 ⟨rfl, bb⟩
  have B23 := Lib.hid (B22.out.trans (bb.mono B22.out.size))
  clear bb
  go_wp2_with fail
  refine (HNO.out ⟨#[1, 10, 1, 0, 1, 1, 1, 1, 8, 2, 8]⟩ 10 10 20 w23 B23.out rfl (by decide) (by kernel_rfl) (by decide)).mono ?_
  rintro _ w24 ⟨rfl, bb⟩
  have B24 := Lib.hid (B23.out.trans (bb.mono B23.out.size))
  clear bb
  go_wp2_with fail
  refine (HNO.out ⟨#[1, 10, 1, 0, 1, 1, 1, 1, 8, 3, 6]⟩ 10 10 20 w24 B24.out rfl (by decide) (by kernel_rfl) (by decide)).mono ?_
  rintro _ w25 ⟨rfl, bb⟩
  have B25 := Lib.hid (B24.out.trans (bb.mono B24.out.size))
  clear bb
  go_wp2_with fail
  refine (HNO.out ⟨#[1, 10, 1, 0, 1, 1, 1, 1, 8, 3, 0]⟩ 11 11 4 w25 B25.out rfl (by decide) (by kernel_rfl) (by decide)).mono ?_
  rintro _ w26 ⟨rfl, bb⟩
  have B26 := Lib.hid (B25.out.trans (bb.mono B25.out.size))
  clear bb
  go_wp2_with fail
  refine (HNO.out ⟨#[1, 10, 1, 0, 1, 1, 1, 1, 8, 4, 1, 0]⟩ 12 12 8 w26 B26.out rfl (by decide) (by kernel_rfl) (by decide)).mono ?_
  rintro _ w27 ⟨rfl, bb⟩
  have B27 := Lib.hid (B26.out.trans (bb.mono B26.out.size))
  clear bb
  go_wp2_with fail
  refine (HNO.out ⟨#[1, 10, 1, 0, 1, 1, 1, 41]⟩ 7 7 20 w27 B27.out rfl (by decide) (by kernel_rfl) (by decide)).mono ?_
  rintro _ w28 ⟨rfl, bb⟩
  have B28 := Lib.hid (B27.out.trans (bb.mono B27.out.size))
  clear bb
  go_wp2_with fail
  go_loopw [13, 14, 15] (fun d n i wr => ∃ k : Nat, k ≤ 6 ∧ i = .int .i64 k ∧ d = .string (dpA k) ∧ n = .string (nsA k) ∧ wr = w28) (fun _ _ i _ => 6 - (intOf i).toNat)
  case atStart => exact ⟨0, by omega, rfl, rfl, rfl, rfl⟩
  case round =>
    obtain ⟨k, hk, rfl, rfl, rfl, rfl⟩ := hrel
    by_cases hlt : k < 6
    · have i1 : (k : Int) < 6 := by omega
      have z1 := dpA_size k
      have z2 := nsA_size k
      have e1 : dpA k ++ ⟨#[7, 1]⟩ = dpA (k + 1) := rfl
      have e2 : nsA k ++ ⟨#[4]⟩ = nsA (k + 1) := rfl
      have z3 : (dpA k).size ≤ 20 := by omega
      have z4 : (nsA k).size ≤ 20 := by omega
      clear z1 z2
      go_wp2_with fail
      go_roundw
      case rel => exact ⟨k + 1, by omega, by go_num, by first | rfl | trivial | rw [e1], by first | rfl | trivial | rw [e2], by first | rfl | trivial⟩
      case measure => simp [intOf]; omega
    · have i1 : ¬ ((k : Int) < 6) := by omega
      obtain rfl : k = 6 := by omega
      have d6 : dpA 6 = ⟨#[1, 10, 1, 0, 1, 1, 1, 1, 7, 1, 7, 1, 7, 1, 7, 1, 7, 1, 7, 1]⟩ := by kernel_rfl
      have n6 : nsA 6 = ⟨#[1, 10, 1, 0, 1, 1, 1, 1, 8, 4, 4, 4, 4, 4, 4]⟩ := by kernel_rfl
      rw [d6, n6]
      clear d6 n6
      go_wp2_with fail
      have cd : (⟨#[1, 10, 1, 0, 1, 1, 1, 1, 7, 1, 7, 1, 7, 1, 7, 1, 7, 1, 7, 1]⟩ : ByteArray) ++ ⟨#[6]⟩ = ⟨#[1, 10, 1, 0, 1, 1, 1, 1, 7, 1, 7, 1, 7, 1, 7, 1, 7, 1, 7, 1, 6]⟩ := by kernel_rfl
      have cn : (⟨#[1, 10, 1, 0, 1, 1, 1, 1, 8, 4, 4, 4, 4, 4, 4]⟩ : ByteArray) ++ ⟨#[1, 0]⟩ = ⟨#[1, 10, 1, 0, 1, 1, 1, 1, 8, 4, 4, 4, 4, 4, 4, 1, 0]⟩ := by kernel_rfl
      refine (decode_empty _).mono ?_
      rintro _ w29 ⟨rfl, bb⟩
      have B29 := Lib.hid (B28.out.trans (bb.mono B28.out.size))
      clear bb
      go_wp2_with fail
      refine (HNO.out ⟨#[1, 10, 1, 0, 1, 1, 1, 1, 7, 1, 7, 1, 7, 1, 7, 1, 7, 1, 7, 1, 6]⟩ 19 19 40 _ (B29.out.alloc B29.out.size _) rfl (by decide) (by kernel_rfl) (by decide)).mono ?_
      rintro _ w30 ⟨rfl, bb⟩
      have B30 := Lib.hid ((B29.out.alloc B29.out.size _).trans (bb.mono (by have := B29.out.size; simp; omega)))
      clear bb
      go_wp2_with fail
      refine (HNO.out ⟨#[1, 10, 1, 0, 1, 1, 1, 1, 8, 4, 4, 4, 4, 4, 4, 1, 0]⟩ 15 15 40 w30 B30.out rfl (by decide) (by kernel_rfl) (by decide)).mono ?_
      rintro _ w31 ⟨rfl, bb⟩
      have B31 := Lib.hid (B30.out.trans (bb.mono B30.out.size))
      clear bb
      go_wp2_with fail
      go_ret
      exact ⟨rfl, B31.out⟩
set_option maxRecDepth 100000 in
theorem PackNames_lifted (os : Os) (started : os.Started) (H : Type) (enc : TypeId × Value → H) :
    ReturnsInHanded {} Tryd.checked os 3 .any (fun w args => (Rows.packNamesSpec.pre enc Tryd.prog Tryd.f3 [] false w args ∧ laidMetH Tryd.prog [("seesaw/code.kinds", Rows.laid_seesaw_code_kinds), ("seesaw/pack.parts", Rows.laid_seesaw_pack_parts)] w) ∧ sizedMet enc Tryd.prog Tryd.f3 (OpenSpec.ofChange Rows.packNamesSpec) false w args)
      (Rows.packNamesSpec.post enc Tryd.prog Tryd.f3 false true false false) := by
  refine returnsInHanded_of_change_and (C := Tryd.checked) (X := fun w _ => laidMetH Tryd.prog [("seesaw/code.kinds", Rows.laid_seesaw_code_kinds), ("seesaw/pack.parts", Rows.laid_seesaw_pack_parts)] w) (fun _ _ _ hh h => h.of_heap hh) lift_own started (by kernel_rfl) Tryd.func3
    (ChangeSpec.witness_shaped (enc := enc) (C := Tryd.checked) (os := os) (X := fun w _ => laidMetH Tryd.prog [("seesaw/code.kinds", Rows.laid_seesaw_code_kinds), ("seesaw/pack.parts", Rows.laid_seesaw_pack_parts)] w) false (World.doorLaid Tryd.prog 400 os) #[] 8 rfl (World.shaped_of_RefB (by kernel_rfl) (by kernel_rfl)) (by kernel_rfl) (by kernel_rfl) (by kernel_rfl) (door_met2 os _)) ?_
  intro W base args ds gs before hval0 hW _ _ hL _
  have hval : ∀ (j : Nat) t v, Tryd.f3.params[j]? = some t → args[j]? = some v → Value.okWide Tryd.prog W .any base t v := hval0
  have hW' := hW
  obtain ⟨p, q, hA0, hV, rfl, hfz, hnd⟩ := hW
  have hA : DataW.TrodAll enc Tryd.prog W 0 (fun _ => true) true Tryd.f3.params.toList args.toList ds p := hA0
  rw [Tryd.params3] at hA hval
  obtain ⟨hargs, rfl, rfl⟩ := trodAll_nil hA
  obtain rfl : args = #[] := by cases args; simp_all
  obtain ⟨rfl, rfl⟩ := trodVars_none hV
  clear hA0 hval0
  simp only [List.append_nil] at hW'
  refine (PackNames_walk W (kd_of_laid2 hL) (pt_of_laid2 hL)).mono fun e W' ⟨he, hg⟩ => ?_
  subst he
  exact ⟨_, rfl, lift_post (pv := []) hW' (fun _ _ _ => (trodAll_cons_mk (shut_bool Tryd.underlying4 _) trodAll_mk0)) (fun sp hsp => trodAll_mk0) (fun _ _ => rfl) (by simp)
    hg (ok_one (by kernel_rfl) rfl (okWide_bool_mk Tryd.underlying4 _))⟩
/-- THE STATEMENT of PackNames: for every input the call returns true, and each argument reads behind it as before. -/
theorem PackNames_holds : Rows.PackNamesSaid :=
  OpenClaim.holds_of_wide 3 Tryd.f3 rfl rfl rfl rfl rfl rfl rfl ⟨rfl, rfl, rfl, rfl, rfl⟩ rfl rfl rfl rfl rfl (by kernel_rfl) Tryd.func3 (by kernel_rfl)
    (of_decide_eq_true (by kernel_rfl)) (by unfold Func.isWrapper; first | (rw [if_pos (by decide +kernel)]; kernel_rfl) | (rw [if_neg (by decide +kernel)]; exact ⟨rfl, rfl⟩))
    (fun os started H enc _ => PackNames_lifted os started H enc)
/-- THE TIED CARD of PackNames. -/
theorem PackNamesCard_holds : Rows.PackNamesCardSaid :=
  Claim7.holds_tied_plain_at .later [] [.data, .data] true Rows.packNamesCard.stood.harness false
    PackNames_holds (fun _ h => by cases h) (by kernel_rfl) (fun _ h => by cases h) packNames_row_tie rfl ⟨rfl, rfl⟩ (by kernel_rfl) rfl
    (fun f fn hf hfn => by
      obtain rfl : f = 3 := Option.some.inj ((show Tryd.prog.funcNamed "seesaw/seesawlaw07.PackNames" = some 3 by kernel_rfl).symm.trans hf) |>.symm
      obtain rfl : fn = Tryd.f3 := (Option.some.inj (Tryd.func3.symm.trans hfn)).symm
      exact ⟨by kernel_rfl, fun j t ht => by
        rw [Tryd.params3] at ht
        simp at ht⟩)
    (by kernel_rfl)
end Go.Proofs.YtpgkhodofhnpnaaDoor
