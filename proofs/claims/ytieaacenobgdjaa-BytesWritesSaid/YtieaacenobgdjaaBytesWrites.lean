/-
  BytesWrites (P2.1): whatever is written, with any bound, each answer is the document's, and what a writer has: the statement holds for every input. Conditions: none beyond the statement's own (at most 300 steps, texts of at most 1000 bytes).
-/
import Derived.Test.YtieaacenobgdjaaBv
import Derived.Test.YtieaacenobgdjaaBz
import Derived.Test.YtieaacenobgdjaaLift
namespace Go.Proofs.Ytieaacenobgdjaa
open Go.ChangeShapes Go.WideShapes Go.ChangeAt Go.RowKit Go.ChangeMaps
set_option linter.unusedVariables false
theorem RWr.fr {w w' : World} {B g gb : Nat} {most : Int} {l : List UInt8} (h : RWr w gb most l) (f : Fr B g w w') (hn : gb ≠ g) (hb : gb < B) : RWr w' gb most l := ⟨h.1.fr f hn hb, h.2⟩
theorem Wr.kp_ref {w w' : World} {g B gw : Nat} {most most' : Int} {l l' : List UInt8} (h : Wr w B gw most l) (o : RWr w g most' l') (k : Kp g none w w') : Wr w' B gw most l := by
  obtain ⟨v, hv⟩ := h
  exact ⟨v, hv.same (k.block gw hv.1.lt (hv.1.unlike o.1 (by decide)) (by simp)) fun r hr => k.block r (hv.row_lt r hr).2 (fun e => o.1.unlike_row hv.2.1 (by decide) (by rw [hr, e])) (by simp)⟩
theorem cell_fr {w w' : World} {B g B0 : Nat} {p : Addr} {v : Value} (h : w.cell? p = some v) (f : Fr B g w w') (hp : p.block < B0) (h0 : B0 ≤ B) (hg : B0 ≤ g) (hw : B0 ≤ w.heap.size) : w'.cell? p = some v := ((f.below h0 hg hw).cell hp).trans h
theorem cell_kp {w w' : World} {g B0 : Nat} {p : Addr} {v : Value} (h : w.cell? p = some v) (f : Kp g none w w') (hp : p.block < B0) (hg : B0 ≤ g) (hw : B0 ≤ w.heap.size) : w'.cell? p = some v := ((f.below0 hg hw).cell hp).trans h
theorem Wr.drew {w : World} {B g : Nat} {most : Int} {l : List UInt8} (h : Wr w B g most l) : Wr w.drew B g most l := h
theorem RWr.drew {w : World} {g : Nat} {most : Int} {l : List UInt8} (h : RWr w g most l) : RWr w.drew g most l := h
theorem byte_m (B g : Nat) (most : Int) (l : List UInt8) (n : Nat) (w : World) (h : Wr w B g most l) (hB : B ≤ w.heap.size) :
    Calls Try.prog 14 #[.pointer (some ⟨g, 0, none⟩), .int .u8 (IntKind.u8.wrap (n : Int))] w (WPost B g most (rawL most l [UInt8.ofNat (n % 256)]) (rawE most l [UInt8.ofNat (n % 256)]) w) := by
  rw [show IntKind.u8.wrap (n : Int) = ((n % 256 : Nat) : Int) by rw [IntKind.wrap_u8]; omega]
  exact byte_w B g most l (n % 256) (by omega) w h hB _ _ rfl rfl
theorem ref_byte_m (g : Nat) (most : Int) (l : List UInt8) (n : Nat) (w : World) (h : RWr w g most l) :
    Calls Try.prog 15 #[.pointer (some ⟨g, 0, none⟩), .int .u8 (IntKind.u8.wrap (n : Int))] w (RRawPost g most l [UInt8.ofNat (n % 256)] w) := by
  rw [show IntKind.u8.wrap (n : Int) = ((n % 256 : Nat) : Int) by rw [IntKind.wrap_u8]; omega]
  exact ref_byte g most l (n % 256) (by omega) w h
theorem wrv_new (most : Int) (h0 : 0 ≤ most) (h1 : most ≤ 16777216) (w : World) (B : Nat) : WrV (w.alloc (.cells #[.int .i64 most, .slice none 0 0] 69)) B w.heap.size most [] (.slice none 0 0) :=
  ⟨Obj.made _ _ _, World.ownsRow_nil _ _ _ _, h0, h1, by simpa using h0⟩
theorem wrv_nil {w : World} {B B' g : Nat} {most : Int} (h : WrV w B g most [] (.slice none 0 0)) : WrV w B' g most [] (.slice none 0 0) :=
  ⟨h.1, World.ownsRow_nil _ _ _ _, h.2.2⟩
theorem len_is (B g : Nat) (most : Int) (l : List UInt8) (w : World) (h : Wr w B g most l) (n : Nat) (hn : l.length = n) :
    Calls Try.prog 22 #[.pointer (some ⟨g, 0, none⟩)] w fun e w' => e = .returned (.int .i64 n) ∧ w = w' := by
  subst hn
  exact len_w B g most l w h

theorem Wr.drewN {w : World} {B g : Nat} {most : Int} {l : List UInt8} (h : Wr w B g most l) (n : Nat) : Wr (w.drewN n) B g most l := h
theorem RWr.drewN {w : World} {g : Nat} {most : Int} {l : List UInt8} (h : RWr w g most l) (n : Nat) : RWr (w.drewN n) g most l := h
theorem writes_len (B g : Nat) (most : Int) (l : List UInt8) (w : World) (h : Wr w B g most l) (n : Nat) :
    Calls Try.prog 22 #[.pointer (some ⟨g, 0, none⟩)] (w.drewN n) fun e w' => e = .returned (.int .i64 (bs l).size) ∧ w' = w.drewN n :=
  (len_is B g most l _ (h.drewN n) _ (bs_size l).symm).mono fun e w' hh => ⟨hh.1, hh.2.symm⟩
theorem writes_text (B g : Nat) (most : Int) (l : List UInt8) (w : World) (h : Wr w B g most l) (n : Nat) :
    Calls Try.prog 23 #[.pointer (some ⟨g, 0, none⟩)] (w.drewN n) fun e w' => e = .returned (.string (bs l)) ∧ w' = w.drewN n :=
  (text_w B g most l _ (h.drewN n) _ rfl).mono fun e w' hh => ⟨hh.1, hh.2.symm⟩
theorem writes_big (most : Int) (A : Option Addr) (c : Nat) (L : List StepV) (w : World) (hl : L.length ≤ 9223372036854775807) (hs : Steps w w.heap.size A L) (h : ¬ Small L) :
    Calls Try.prog 3 #[.int .i64 most, .slice A L.length c] w fun e w' => e = .returned (.bool true) ∧ Below w.heap.size w w' := by
  go_enter Try.func3, Try.ntmps3
  go_wp2_with fail
  refine (large_of A c _ L w hs hl h).mono ?_
  rintro e w' ⟨rfl, rfl⟩
  go_wp2_with fail
  refine (awake_any _).mono ?_
  rintro e w1 ⟨rfl, b1⟩
  go_wp2_with fail
  go_ret
  exact ⟨rfl, b1⟩
theorem writes_bad (most : Int) (A : Option Addr) (c : Nat) (L : List StepV) (w : World) (hs : Steps w w.heap.size A L) (hL : Small L) (h : most < 0 ∨ 16777216 < most) :
    Calls Try.prog 3 #[.int .i64 most, .slice A L.length c] w fun e w' => e = .returned (.bool true) ∧ Below w.heap.size w w' := by
  have H := Lib.hid h
  have Hlarge := Lib.hid (large_no A c _ L w hs hL.1 hL.2)
  clear h hs
  go_enter Try.func3, Try.ntmps3
  go_wp2_with fail
  refine Hlarge.out.mono ?_
  rintro e w' ⟨rfl, rfl⟩
  go_wp2_with fail
  refine (new_writer_bad most H.out _).mono ?_
  rintro e w' ⟨rfl, rfl⟩
  go_wp2_with fail
  refine (ref_writer_bad most H.out _).mono ?_
  rintro e w' ⟨rfl, rfl⟩
  go_wp2_with fail
  refine (awake_any _).mono ?_
  rintro e w1 ⟨rfl, b1⟩
  go_wp2_with fail
  go_ret
  exact ⟨rfl, b1⟩

set_option maxRecDepth 100000 in
set_option maxHeartbeats 4000000 in
theorem writes_ok (most : Int) (m0 : 0 ≤ most) (m1 : most ≤ 16777216) (A : Option Addr) (c : Nat) (L : List StepV) (w : World) (hs : Steps w w.heap.size A L) (hL : Small L) :
    Calls Try.prog 3 #[.int .i64 most, .slice A L.length c] w fun e w' => e = .returned (.bool true) ∧ Below w.heap.size w w' := by
  obtain ⟨B0, hB0⟩ : ∃ B0, B0 = w.heap.size := ⟨_, rfl⟩
  rw [← hB0] at hs ⊢
  have e0 : B0 ≤ w.heap.size := by omega
  have HS := Lib.hid hs
  have HL := Lib.hid hL
  have hL1 : L.length ≤ 300 := hL.1
  have Hlarge := Lib.hid (large_no A c _ L w hs hL.1 hL.2)
  clear hB0 hs hL
  go_enter Try.func3, Try.ntmps3
  go_wp2_with fail
  refine Hlarge.out.mono ?_
  rintro e w' ⟨rfl, rfl⟩
  clear Hlarge
  go_wp2_with fail
  refine (new_writer most m0 m1 _).mono ?_
  rintro e w2 ⟨rfl, h⟩
  have ra := wrv_new most m0 m1 w 0
  have b2 := alloc_below w (.cells #[.int .i64 most, .slice none 0 0] 69)
  have z2 := size_alloc1 w (.cells #[.int .i64 most, .slice none 0 0] 69)
  rw [← h] at ra b2 z2
  have c2 : Below B0 w w2 := b2.mono e0
  have q2 : w.heap.size < w2.heap.size := by omega
  clear h z2 b2
  go_wp2_with fail
  refine (ref_writer most m0 m1 _).mono ?_
  rintro e w3 ⟨rfl, h⟩
  have rb : RWr (w2.alloc (.cells #[.int .i64 most, .string (bs [])] 41)) w2.heap.size most [] := ⟨Obj.made _ _ _, m0, m1, by simpa using m0⟩
  have b3 := alloc_below w2 (.cells #[.int .i64 most, .string (bs [])] 41)
  have z3 := size_alloc1 w2 (.cells #[.int .i64 most, .string (bs [])] 41)
  rw [← h] at rb b3 z3
  have ra := ra.below b3 (Nat.le_refl _)
  have c3 : Below B0 w w3 := c2.trans (b3.mono (by omega))
  have q3 : w2.heap.size < w3.heap.size := by omega
  clear h z3 b3 c2
  have ra : Wr w3 w3.heap.size w.heap.size most [] := ⟨_, wrv_nil ra⟩
  have g2 : B0 ≤ w2.heap.size := by omega
  have g3 : B0 ≤ w3.heap.size := by omega
  have hn1 : w2.heap.size ≠ w.heap.size := by omega
  go_wp2_with fail
  go_loopw [9] (fun i wr => ∃ (k : Nat) (l : List UInt8), k ≤ L.length ∧ i = .int .i64 k ∧ Wr wr w3.heap.size w.heap.size most l ∧ RWr wr w2.heap.size most l ∧ Below B0 w wr ∧ w3.heap.size ≤ wr.heap.size) (fun i _ => L.length - (intOf i).toNat)
  case atStart => exact ⟨0, [], by omega, rfl, ra, rb, c3, Nat.le_refl _⟩
  case round =>
    clear ra rb c3
    obtain ⟨k, l, hk, rfl, ra, rb, r2, r3⟩ := hrel
    by_cases hlt : k < L.length
    · obtain ⟨p, rfl, ha, hst0⟩ := HS.out k hlt
      obtain ⟨d0, d1, d2, d3, d4, dok⟩ := hst0.below r2 (by rw [add_block]; exact ha)
      have hsz : (nth L k).s.size ≤ 281474976710656 := by have := HL.out.2 k hlt; omega
      by_cases k0 : (nth L k).kind = 0
      · have k0' : ((nth L k).kind : Int) = 0 := by omega
        rw [k0'] at d0
        clear k0'
        have hpb : (p.add (k * 5)).block < B0 := by rw [add_block]; exact ha
        have gw := Nat.le_trans e0 r2.size
        go_wp2_with fail
        go_region_held3 (fun w' => w'.cell? ⟨(p.add (k * 5)).block, (p.add (k * 5)).off + 1, none⟩ = some (.int .u64 (nth L k).n))
          (first | exact cell_kp (cell_fr (w := wr.drew) d1 f4 hpb g3 e0 gw) k5 hpb g2 (Nat.le_trans gw f4.size) | exact cell_fr (w := wr.drew) d1 f4 hpb g3 e0 gw | exact d1 | fail)
          (first | (go_at_call 14; refine (byte_m _ _ _ _ (nth L k).n _ ra.drew r3).mono ?_; rintro e w4 ⟨rfl, ra4, f4⟩) | (go_at_call 15; refine (ref_byte_m _ _ _ (nth L k).n _ (rb.drew.fr f4 hn1 q3)).mono ?_; rintro e w5 ⟨rfl, rb5, k5⟩) | fail)
        have ra5 := ra4.kp_ref (rb.drew.fr f4 hn1 q3) k5
        have c4 : Below B0 w w4 := r2.drew.trans (f4.below (w := wr.drew) g3 e0 gw)
        have c5 : Below B0 w w5 := c4.trans (k5.below0 g2 (Nat.le_trans e0 c4.size))
        have q5 : w3.heap.size ≤ w5.heap.size := Nat.le_trans r3 (Nat.le_trans f4.size k5.size)
        have s5 : B0 ≤ w5.heap.size := Nat.le_trans e0 c5.size
        clear ra4 f4 k5 ra rb r2 r3 c4 gw d0 d1 d2 d3 d4 dok
        obtain ⟨l2, hl2⟩ : ∃ l2, l2 = rawL most l ([UInt8.ofNat ((nth L k).n % 256)]) := ⟨_, rfl⟩
        rw [← hl2] at ra5 rb5
        clear hl2
        have x1 := rb5.1.cell 1
        simp at x1
        have HLen := Lib.hid (fun n => writes_len _ _ _ l2 _ ra5 n)
        have HText := Lib.hid (fun n => writes_text _ _ _ l2 _ ra5 n)
        have HA := Lib.hid ra5
        have HB := Lib.hid rb5
        clear ra5 rb5
        go_wp2_with fail
        go_quiet ((first | (go_at_call 22; exact Calls.quiet_of_same (HLen.out _)) | (go_at_call 23; exact Calls.quiet_of_same (HText.out _))))
        go_wp2_with fail
        go_roundw
        case rel => exact ⟨k + 1, l2, by omega, by go_num, HA.out.drewN _, HB.out.drewN _, c5.trans ((drewN_below w5 _).mono s5), q5⟩
        case measure => simp [intOf]; omega
      · have e0' : (((nth L k).kind : Int) == 0) = false := by simp; omega
        by_cases k1 : (nth L k).kind = 1
        · have k1' : ((nth L k).kind : Int) = 1 := by omega
          rw [k1'] at d0
          clear k1'
          have hpb : (p.add (k * 5)).block < B0 := by rw [add_block]; exact ha
          have gw := Nat.le_trans e0 r2.size
          go_wp2_with fail
          go_region_held3 (fun w' => w'.cell? ⟨(p.add (k * 5)).block, (p.add (k * 5)).off + 1, none⟩ = some (.int .u64 (nth L k).n))
            (first | exact cell_kp (cell_fr (w := wr.drew) d1 f4 hpb g3 e0 gw) k5 hpb g2 (Nat.le_trans gw f4.size) | exact cell_fr (w := wr.drew) d1 f4 hpb g3 e0 gw | exact d1 | fail)
            (first | (go_at_call 16; refine (num_w _ _ _ _ (nth L k).n dok.n _ ra.drew r3 _ _ rfl rfl).mono ?_; rintro e w4 ⟨rfl, ra4, f4⟩) | (go_at_call 17; refine (ref_num _ _ _ (nth L k).n dok.n _ (rb.drew.fr f4 hn1 q3)).mono ?_; rintro e w5 ⟨rfl, rb5, k5⟩) | fail)
          have ra5 := ra4.kp_ref (rb.drew.fr f4 hn1 q3) k5
          have c4 : Below B0 w w4 := r2.drew.trans (f4.below (w := wr.drew) g3 e0 gw)
          have c5 : Below B0 w w5 := c4.trans (k5.below0 g2 (Nat.le_trans e0 c4.size))
          have q5 : w3.heap.size ≤ w5.heap.size := Nat.le_trans r3 (Nat.le_trans f4.size k5.size)
          have s5 : B0 ≤ w5.heap.size := Nat.le_trans e0 c5.size
          clear ra4 f4 k5 ra rb r2 r3 c4 gw d0 d1 d2 d3 d4 dok
          obtain ⟨l2, hl2⟩ : ∃ l2, l2 = rawL most l (Vm.put (nth L k).n) := ⟨_, rfl⟩
          rw [← hl2] at ra5 rb5
          clear hl2
          have x1 := rb5.1.cell 1
          simp at x1
          have HLen := Lib.hid (fun n => writes_len _ _ _ l2 _ ra5 n)
          have HText := Lib.hid (fun n => writes_text _ _ _ l2 _ ra5 n)
          have HA := Lib.hid ra5
          have HB := Lib.hid rb5
          clear ra5 rb5
          go_wp2_with fail
          go_quiet ((first | (go_at_call 22; exact Calls.quiet_of_same (HLen.out _)) | (go_at_call 23; exact Calls.quiet_of_same (HText.out _))))
          go_wp2_with fail
          go_roundw
          case rel => exact ⟨k + 1, l2, by omega, by go_num, HA.out.drewN _, HB.out.drewN _, c5.trans ((drewN_below w5 _).mono s5), q5⟩
          case measure => simp [intOf]; omega
        · have e1' : (((nth L k).kind : Int) == 1) = false := by simp; omega
          by_cases k2 : (nth L k).kind = 2
          · have k2' : ((nth L k).kind : Int) = 2 := by omega
            rw [k2'] at d0
            clear k2'
            have hpb : (p.add (k * 5)).block < B0 := by rw [add_block]; exact ha
            have gw := Nat.le_trans e0 r2.size
            go_wp2_with fail
            go_region_held3 (fun w' => w'.cell? ⟨(p.add (k * 5)).block, (p.add (k * 5)).off + 2, none⟩ = some (.int .i64 (nth L k).x))
              (first | exact cell_kp (cell_fr (w := wr.drew) d2 f4 hpb g3 e0 gw) k5 hpb g2 (Nat.le_trans gw f4.size) | exact cell_fr (w := wr.drew) d2 f4 hpb g3 e0 gw | exact d2 | fail)
              (first | (go_at_call 18; refine (int_w _ _ _ _ (nth L k).x dok.x0 dok.x1 _ ra.drew r3 _ _ rfl rfl).mono ?_; rintro e w4 ⟨rfl, ra4, f4⟩) | (go_at_call 19; refine (ref_int _ _ _ (nth L k).x dok.x0 dok.x1 _ (rb.drew.fr f4 hn1 q3)).mono ?_; rintro e w5 ⟨rfl, rb5, k5⟩) | fail)
            have ra5 := ra4.kp_ref (rb.drew.fr f4 hn1 q3) k5
            have c4 : Below B0 w w4 := r2.drew.trans (f4.below (w := wr.drew) g3 e0 gw)
            have c5 : Below B0 w w5 := c4.trans (k5.below0 g2 (Nat.le_trans e0 c4.size))
            have q5 : w3.heap.size ≤ w5.heap.size := Nat.le_trans r3 (Nat.le_trans f4.size k5.size)
            have s5 : B0 ≤ w5.heap.size := Nat.le_trans e0 c5.size
            clear ra4 f4 k5 ra rb r2 r3 c4 gw d0 d1 d2 d3 d4 dok
            obtain ⟨l2, hl2⟩ : ∃ l2, l2 = rawL most l (Vm.put (zigV (nth L k).x).toNat) := ⟨_, rfl⟩
            rw [← hl2] at ra5 rb5
            clear hl2
            have x1 := rb5.1.cell 1
            simp at x1
            have HLen := Lib.hid (fun n => writes_len _ _ _ l2 _ ra5 n)
            have HText := Lib.hid (fun n => writes_text _ _ _ l2 _ ra5 n)
            have HA := Lib.hid ra5
            have HB := Lib.hid rb5
            clear ra5 rb5
            go_wp2_with fail
            go_quiet ((first | (go_at_call 22; exact Calls.quiet_of_same (HLen.out _)) | (go_at_call 23; exact Calls.quiet_of_same (HText.out _))))
            go_wp2_with fail
            go_roundw
            case rel => exact ⟨k + 1, l2, by omega, by go_num, HA.out.drewN _, HB.out.drewN _, c5.trans ((drewN_below w5 _).mono s5), q5⟩
            case measure => simp [intOf]; omega
          · have e2' : (((nth L k).kind : Int) == 2) = false := by simp; omega
            by_cases k3 : (nth L k).kind = 3
            · have k3' : ((nth L k).kind : Int) = 3 := by omega
              rw [k3'] at d0
              clear k3'
              have hpb : (p.add (k * 5)).block < B0 := by rw [add_block]; exact ha
              have gw := Nat.le_trans e0 r2.size
              go_wp2_with fail
              go_region_held3 (fun w' => w'.cell? ⟨(p.add (k * 5)).block, (p.add (k * 5)).off + 3, none⟩ = some (.string (nth L k).s))
                (first | exact cell_kp (cell_fr (w := wr.drew) d3 f4 hpb g3 e0 gw) k5 hpb g2 (Nat.le_trans gw f4.size) | exact cell_fr (w := wr.drew) d3 f4 hpb g3 e0 gw | exact d3 | fail)
                (first | (go_at_call 20; refine (raw_w _ _ _ _ (nth L k).s _ ra.drew r3 dok.s _ _ rfl rfl).mono ?_; rintro e w4 ⟨rfl, ra4, f4⟩) | (go_at_call 21; refine (ref_raw _ _ _ (nth L k).s hsz _ (rb.drew.fr f4 hn1 q3)).mono ?_; rintro e w5 ⟨rfl, rb5, k5⟩) | fail)
              have ra5 := ra4.kp_ref (rb.drew.fr f4 hn1 q3) k5
              have c4 : Below B0 w w4 := r2.drew.trans (f4.below (w := wr.drew) g3 e0 gw)
              have c5 : Below B0 w w5 := c4.trans (k5.below0 g2 (Nat.le_trans e0 c4.size))
              have q5 : w3.heap.size ≤ w5.heap.size := Nat.le_trans r3 (Nat.le_trans f4.size k5.size)
              have s5 : B0 ≤ w5.heap.size := Nat.le_trans e0 c5.size
              clear ra4 f4 k5 ra rb r2 r3 c4 gw d0 d1 d2 d3 d4 dok
              obtain ⟨l2, hl2⟩ : ∃ l2, l2 = rawL most l ((nth L k).s.data.toList) := ⟨_, rfl⟩
              rw [← hl2] at ra5 rb5
              clear hl2
              have x1 := rb5.1.cell 1
              simp at x1
              have HLen := Lib.hid (fun n => writes_len _ _ _ l2 _ ra5 n)
              have HText := Lib.hid (fun n => writes_text _ _ _ l2 _ ra5 n)
              have HA := Lib.hid ra5
              have HB := Lib.hid rb5
              clear ra5 rb5
              go_wp2_with fail
              go_quiet ((first | (go_at_call 22; exact Calls.quiet_of_same (HLen.out _)) | (go_at_call 23; exact Calls.quiet_of_same (HText.out _))))
              go_wp2_with fail
              go_roundw
              case rel => exact ⟨k + 1, l2, by omega, by go_num, HA.out.drewN _, HB.out.drewN _, c5.trans ((drewN_below w5 _).mono s5), q5⟩
              case measure => simp [intOf]; omega
            · have e3' : (((nth L k).kind : Int) == 3) = false := by simp; omega
              have ra5 := ra
              have rb5 := rb
              have c5 := r2
              have q5 := r3
              have s5 : B0 ≤ wr.heap.size := Nat.le_trans e0 c5.size
              obtain ⟨l2, hl2⟩ : ∃ l2, l2 = l := ⟨_, rfl⟩
              rw [← hl2] at ra5 rb5
              clear hl2 ra rb r2 r3 d1 d2 d3 d4 dok
              have x1 := rb5.1.cell 1
              simp at x1
              have HLen := Lib.hid (fun n => writes_len _ _ _ l2 _ ra5 n)
              have HText := Lib.hid (fun n => writes_text _ _ _ l2 _ ra5 n)
              have HA := Lib.hid ra5
              have HB := Lib.hid rb5
              clear ra5 rb5
              go_wp2_with fail
              go_quiet ((first | (go_at_call 22; exact Calls.quiet_of_same (HLen.out _)) | (go_at_call 23; exact Calls.quiet_of_same (HText.out _))))
              go_wp2_with fail
              go_roundw
              case rel => exact ⟨k + 1, l2, by omega, by go_num, HA.out.drewN _, HB.out.drewN _, c5.trans ((drewN_below wr _).mono s5), q5⟩
              case measure => simp [intOf]; omega
    · go_wp2_with fail
      refine (awake_any _).mono ?_
      rintro e w1 ⟨rfl, b1⟩
      go_wp2_with fail
      go_ret
      exact ⟨rfl, r2.trans (b1.mono (Nat.le_trans e0 r2.size))⟩

theorem BytesWrites_walk (most : Int) (hm : (Lit.int .i64 most).wf = true) (A : Option Addr) (c : Nat) (L : List StepV) (hl : L.length ≤ 9223372036854775807) (w : World) (hs : Steps w w.heap.size A L) :
    Calls Try.prog 3 #[.int .i64 most, .slice A L.length c] w fun e w' => e = .returned (.bool true) ∧ Below w.heap.size w w' := by
  by_cases h : Small L
  · by_cases hb : most < 0 ∨ 16777216 < most
    · exact writes_bad most A c L w hs h hb
    · exact writes_ok most (by omega) (by omega) A c L w hs h
  · exact writes_big most A c L w hl hs h

theorem BytesWrites_laid : laidOutB Try.prog = true := by kernel_rfl
set_option maxRecDepth 100000 in
theorem BytesWrites_lifted (os : Os) (started : os.Started) (H : Type) (enc : TypeId × Value → H) :
    ReturnsInHanded {} Try.checked os 3 .any (Rows.bytesWritesSpec.pre6 enc Try.prog Try.f3 Rows.bytesWritesRow.domain false) (Rows.bytesWritesSpec.post enc Try.prog Try.f3 false true false false) := by
  refine returnsInHanded_of_change (C := Try.checked) lift_own started (by kernel_rfl) Try.func3
    (ChangeSpec.witness6 (enc := enc) (C := Try.checked) false ⟨#[], #[.int .i64 0, .slice none 0 0], []⟩ 8 (by kernel_rfl) (by kernel_rfl) (by kernel_rfl) (by kernel_rfl)) ?_
  intro W base args ds gs before hval0 hW hcnd _
  have hval : ∀ (j : Nat) t v, Try.f3.params[j]? = some t → args[j]? = some v → Value.okWide Try.prog W .any base t v := hval0
  have hW' := hW
  obtain ⟨p, q, hA0, hV, rfl, hfz, hnd⟩ := hW
  have hA : DataW.TrodAll enc Try.prog W 0 (fun _ => true) true Try.f3.params.toList args.toList ds p := hA0
  rw [Try.params3] at hA hval
  obtain ⟨v0, vs0, d0, ds0, p0, q0, hargs, rfl, rfl, h0, r0⟩ := trodAll_cons hA
  obtain ⟨v1, vs1, d1, ds1, p1, q1, rfl, rfl, rfl, h1, r1⟩ := trodAll_cons r0
  obtain ⟨rfl, rfl, rfl⟩ := trodAll_nil r1
  obtain rfl : args = #[v0, v1] := by cases args; simp_all
  obtain ⟨rfl, rfl⟩ := trodVars_none hV
  obtain ⟨a0, rfl, rfl, rfl, w0⟩ := open_int Try.underlying3 (hval 0 3 v0 rfl rfl) h0
  obtain ⟨A1, c1, L1, rfl, wl1, ws1⟩ := open_steps (hval 1 22 v1 rfl rfl) h1
  clear hA0 hval0
  simp only [List.append_nil, List.nil_append] at hW'
  refine (BytesWrites_walk a0 w0 A1 c1 L1 wl1 W ws1).mono fun e W' ⟨he, hg⟩ => ?_
  subst he
  exact ⟨_, rfl, lift_post (pv := []) hW' (fun _ _ _ => (trodAll_cons_mk (shut_bool Try.underlying4 _) trodAll_mk0)) (fun sp hsp => (trodAll_cons_mk (shut_int Try.underlying3 w0) (trodAll_cons_mk (WideElems.Trod_stays BytesWrites_laid (by kernel_rfl) (of_decide_eq_true (by kernel_rfl)) h1 (fun x hx => hg.same (hW'.lt x (by simp [hx]))) (fun x hx => hsp x (by simp [hx]))) trodAll_mk0))) (fun _ _ => rfl) (by simp)
    hg (ok_one (by kernel_rfl) rfl (okWide_bool_mk Try.underlying4 _))⟩

/-- THE STATEMENT of BytesWrites: for every input the call returns true, and each argument reads behind it as before. -/
theorem BytesWrites_holds : Rows.BytesWritesSaid :=
  OpenClaim.holds_of_wide 3 Try.f3 rfl rfl rfl rfl rfl rfl rfl ⟨rfl, rfl, rfl, rfl, rfl⟩ rfl rfl rfl rfl rfl (by kernel_rfl) Try.func3 (by kernel_rfl)
    (of_decide_eq_true (by kernel_rfl)) (by unfold Func.isWrapper; first | (rw [if_pos (by decide +kernel)]; kernel_rfl) | (rw [if_neg (by decide +kernel)]; exact ⟨rfl, rfl⟩))
    (fun os started H enc _ => BytesWrites_lifted os started H enc)

end Go.Proofs.Ytieaacenobgdjaa
