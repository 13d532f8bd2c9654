/-
  DeltaNames (layer 14): the walk. Laid by gen/gen_dmc.py. Conditions: the table of names lies.
-/
import Derived.Test.YtcomhnenfdoklaaDoorDmb
import Derived.Great.BuildSlice
namespace Go.Proofs.YtcomhnenfdoklaaDoor
set_option maxRecDepth 100000
open Go.RowKit Go.Deep
set_option linter.unusedVariables false
set_option linter.unusedSimpArgs false
section
variable {a : Act} {w : World} {K : Act → World → Prop} {Q : Exit → Act → World → Prop} {o : Oper}
end
def nmQ : Cd := wrQ (newQ 2 3 2) 1000 [] ⟨1, 0, 0, 0, 5, 0, 0⟩
def sizC : Array Value := #[.int .i64 0, .int .i64 1, .int .i64 1, .int .i64 7, .int .i64 1, .int .i64 1, .int .i64 1, .int .i64 0, .int .i64 0, .int .i64 1, .int .i64 33, .int .i64 1, .int .i64 1, .int .i64 2, .int .i64 3, .int .i64 1, .int .i64 2, .int .i64 0]
def badC : Array Value := #[.int .u8 0, .int .i64 0, .int .i64 0, .int .i64 0, .int .i64 0, .int .i64 0, .int .u8 0, .int .u8 1, .int .i64 2, .int .i64 0, .int .i64 0, .int .i64 9, .int .i64 0, .int .u8 0, .int .u8 1, .int .i64 0, .int .i64 0, .int .i64 0, .int .i64 4, .int .i64 0, .int .u8 0, .int .u8 2, .int .i64 0, .int .i64 0, .int .i64 0, .int .i64 6, .int .i64 0, .int .u8 0, .int .u8 2, .int .i64 1, .int .i64 0, .int .i64 0, .int .i64 1, .int .i64 0, .int .u8 0, .int .u8 5, .int .i64 0, .int .i64 0, .int .i64 0, .int .i64 5, .int .i64 0, .int .u8 0, .int .u8 7, .int .i64 0, .int .i64 0, .int .i64 0, .int .i64 5, .int .i64 0, .int .u8 0]
def txtC : Array Value := #[.string ⟨#[]⟩, .int .i64 0, .int .i64 8, .string ⟨#[26]⟩, .int .i64 0, .int .i64 20, .string ⟨#[0, 6]⟩, .int .i64 1, .int .i64 20, .string ⟨#[2, 2]⟩, .int .i64 1, .int .i64 20, .string ⟨#[2, 0, 1]⟩, .int .i64 2, .int .i64 20, .string ⟨#[8, 0]⟩, .int .i64 1, .int .i64 20, .string ⟨#[12, 1]⟩, .int .i64 1, .int .i64 20, .string ⟨#[12, 2]⟩, .int .i64 1, .int .i64 20, .string ⟨#[18, 6]⟩, .int .i64 1, .int .i64 20, .string ⟨#[18, 5]⟩, .int .i64 0, .int .i64 0, .string ⟨#[6]⟩, .int .i64 1, .int .i64 8, .string ⟨#[128, 0]⟩, .int .i64 0, .int .i64 11]
theorem sizRow : ∀ k, k < 6 → ∃ x y z : Int, (sizC[k * 3 + 0]? = some (.int .i64 x) ∧ sizC[k * 3 + 1]? = some (.int .i64 y) ∧ sizC[k * 3 + 2]? = some (.int .i64 z)) ∧ sizeD x y z = false
  | 0, _ => ⟨0, 1, 1, ⟨rfl, rfl, rfl⟩, by decide⟩
  | 1, _ => ⟨7, 1, 1, ⟨rfl, rfl, rfl⟩, by decide⟩
  | 2, _ => ⟨1, 0, 0, ⟨rfl, rfl, rfl⟩, by decide⟩
  | 3, _ => ⟨1, 33, 1, ⟨rfl, rfl, rfl⟩, by decide⟩
  | 4, _ => ⟨1, 2, 3, ⟨rfl, rfl, rfl⟩, by decide⟩
  | 5, _ => ⟨1, 2, 0, ⟨rfl, rfl, rfl⟩, by decide⟩
  | k + 6, h => absurd h (by omega)
theorem badRow : ∀ k, k < 7 → ∃ e : Ev, (badC[k * 7 + 0]? = some (.int .u8 e.kd) ∧ badC[k * 7 + 1]? = some (.int .i64 e.th) ∧ badC[k * 7 + 2]? = some (.int .i64 e.tx) ∧ badC[k * 7 + 3]? = some (.int .i64 e.pl) ∧ badC[k * 7 + 4]? = some (.int .i64 e.v) ∧ badC[k * 7 + 5]? = some (.int .i64 e.x) ∧ badC[k * 7 + 6]? = some (.int .u8 e.why)) ∧ mayT nmQ e = false ∧ EvOk e
  | 0, _ => ⟨⟨0, 0, 0, 0, 0, 0, 0⟩, ⟨rfl, rfl, rfl, rfl, rfl, rfl, rfl⟩, by kernel_rfl, ev_okD _ (by decide)⟩
  | 1, _ => ⟨⟨1, 2, 0, 0, 9, 0, 0⟩, ⟨rfl, rfl, rfl, rfl, rfl, rfl, rfl⟩, by kernel_rfl, ev_okD _ (by decide)⟩
  | 2, _ => ⟨⟨1, 0, 0, 0, 4, 0, 0⟩, ⟨rfl, rfl, rfl, rfl, rfl, rfl, rfl⟩, by kernel_rfl, ev_okD _ (by decide)⟩
  | 3, _ => ⟨⟨2, 0, 0, 0, 6, 0, 0⟩, ⟨rfl, rfl, rfl, rfl, rfl, rfl, rfl⟩, by kernel_rfl, ev_okD _ (by decide)⟩
  | 4, _ => ⟨⟨2, 1, 0, 0, 1, 0, 0⟩, ⟨rfl, rfl, rfl, rfl, rfl, rfl, rfl⟩, by kernel_rfl, ev_okD _ (by decide)⟩
  | 5, _ => ⟨⟨5, 0, 0, 0, 5, 0, 0⟩, ⟨rfl, rfl, rfl, rfl, rfl, rfl, rfl⟩, by kernel_rfl, ev_okD _ (by decide)⟩
  | 6, _ => ⟨⟨7, 0, 0, 0, 5, 0, 0⟩, ⟨rfl, rfl, rfl, rfl, rfl, rfl, rfl⟩, by kernel_rfl, ev_okD _ (by decide)⟩
  | k + 7, h => absurd h (by omega)
theorem txtRow : ∀ k, k < 12 → ∃ (s : ByteArray) (p : Nat) (e : Int), (txtC[k * 3 + 0]? = some (.string s) ∧ txtC[k * 3 + 1]? = some (.int .i64 (p : Int)) ∧ txtC[k * 3 + 2]? = some (.int .i64 e)) ∧ s.size ≤ 16 ∧ (rdX (newQ 2 3 2) s 0 0).2.2 = e ∧ (e ≠ 0 → (rdX (newQ 2 3 2) s 0 0).2.1 = p) ∧ (e = 0 → p = 0)
  | 0, _ => ⟨⟨#[]⟩, 0, 8, ⟨rfl, rfl, rfl⟩, by decide, by kernel_rfl, fun _ => (by kernel_rfl), fun h => rfl⟩
  | 1, _ => ⟨⟨#[26]⟩, 0, 20, ⟨rfl, rfl, rfl⟩, by decide, by kernel_rfl, fun _ => (by kernel_rfl), fun h => rfl⟩
  | 2, _ => ⟨⟨#[0, 6]⟩, 1, 20, ⟨rfl, rfl, rfl⟩, by decide, by kernel_rfl, fun _ => (by kernel_rfl), fun h => absurd h (by decide)⟩
  | 3, _ => ⟨⟨#[2, 2]⟩, 1, 20, ⟨rfl, rfl, rfl⟩, by decide, by kernel_rfl, fun _ => (by kernel_rfl), fun h => absurd h (by decide)⟩
  | 4, _ => ⟨⟨#[2, 0, 1]⟩, 2, 20, ⟨rfl, rfl, rfl⟩, by decide, by kernel_rfl, fun _ => (by kernel_rfl), fun h => absurd h (by decide)⟩
  | 5, _ => ⟨⟨#[8, 0]⟩, 1, 20, ⟨rfl, rfl, rfl⟩, by decide, by kernel_rfl, fun _ => (by kernel_rfl), fun h => absurd h (by decide)⟩
  | 6, _ => ⟨⟨#[12, 1]⟩, 1, 20, ⟨rfl, rfl, rfl⟩, by decide, by kernel_rfl, fun _ => (by kernel_rfl), fun h => absurd h (by decide)⟩
  | 7, _ => ⟨⟨#[12, 2]⟩, 1, 20, ⟨rfl, rfl, rfl⟩, by decide, by kernel_rfl, fun _ => (by kernel_rfl), fun h => absurd h (by decide)⟩
  | 8, _ => ⟨⟨#[18, 6]⟩, 1, 20, ⟨rfl, rfl, rfl⟩, by decide, by kernel_rfl, fun _ => (by kernel_rfl), fun h => absurd h (by decide)⟩
  | 9, _ => ⟨⟨#[18, 5]⟩, 0, 0, ⟨rfl, rfl, rfl⟩, by decide, by kernel_rfl, fun h => absurd rfl h, fun h => rfl⟩
  | 10, _ => ⟨⟨#[6]⟩, 1, 8, ⟨rfl, rfl, rfl⟩, by decide, by kernel_rfl, fun _ => (by kernel_rfl), fun h => absurd h (by decide)⟩
  | 11, _ => ⟨⟨#[128, 0]⟩, 0, 11, ⟨rfl, rfl, rfl⟩, by decide, by kernel_rfl, fun _ => (by kernel_rfl), fun h => rfl⟩
  | k + 12, h => absurd h (by omega)
def EV0 : Value := .agg #[.int .u8 0, .int .i64 0, .int .i64 0, .int .i64 0, .int .i64 0, .int .i64 0, .int .u8 0]
set_option maxHeartbeats 8000000 in
theorem names_walk (w : World) (hek : Ek w) : Calls Tryd.prog 5 #[] w fun r w' => r = .returned (.bool true) ∧ Below w.heap.size w w' := by
  have HAW := Lib.hid (fun w' (hb : Below w.heap.size w w') => awake_any14 w' (hek.below hb))
  have HEK := Lib.hid hek
  have HNW := Lib.hid (new_writer 1000 (by decide) (by decide) w)
  obtain ⟨w1, hw1⟩ : ∃ w1, w.alloc (.cells #[.int .i64 1000, .slice none 0 0] 84) = w1 := ⟨_, rfl⟩
  have b1 : Below w.heap.size w w1 := by rw [← hw1]; exact (Below.refl _ _).alloc (Nat.le_refl _) _
  have wr1 : Wr w1 (w.heap.size + 1) w.heap.size 1000 [] := by rw [← hw1]; exact wr_new 1000 (by decide) (by decide) w
  have z1 : w.heap.size + 1 ≤ w1.heap.size := by rw [← hw1]; simp
  rw [hw1] at HNW
  have HNR := Lib.hid (new_reader ⟨#[0, 0, 0]⟩ (by decide) w1)
  obtain ⟨w2, hw2⟩ : ∃ w2, w1.alloc (.cells #[.string ⟨#[0, 0, 0]⟩, .int .i64 0, .int .i64 0] 95) = w2 := ⟨_, rfl⟩
  have b2 : Below w1.heap.size w1 w2 := by rw [← hw2]; exact (Below.refl _ _).alloc (Nat.le_refl _) _
  rw [hw2] at HNR
  have HNC := Lib.hid (new_yesD 2 3 2 (by decide) w2)
  obtain ⟨w3, hw3⟩ : ∃ w3, w2.alloc (.cells (rowC 49 (cellD (newQ 2 3 2))) 78) = w3 := ⟨_, rfl⟩
  have b3 : Below w2.heap.size w2 w3 := by rw [← hw3]; exact (Below.refl _ _).alloc (Nat.le_refl _) _
  have c3 : CodAt w3 w2.heap.size (newQ 2 3 2) := by rw [← hw3]; exact heap_alloc_new w2 _
  rw [hw3] at HNC
  have bw2 := b1.trans (b2.mono b1.size)
  obtain ⟨gw, hgw⟩ : ∃ g, g = w.heap.size := ⟨_, rfl⟩
  obtain ⟨gr, hgr⟩ : ∃ g, g = w1.heap.size := ⟨_, rfl⟩
  obtain ⟨gc, hgc⟩ : ∃ g, g = w2.heap.size := ⟨_, rfl⟩
  rw [← hgw] at wr1 HNW z1
  rw [← hgr] at HNR
  rw [← hgc] at HNC c3
  have hq : CdOk (newQ 2 3 2) := newQ_ok (by decide)
  have C3 : Hid (CW w gc gw (gw + 1) 1000 (newQ 2 3 2) [] w3) := ⟨c3, (wr1.below b2 (Nat.le_refl _)).below b3 (Nat.le_refl _), Nat.le_trans z1 (Nat.le_trans b2.size b3.size), bw2.trans (b3.mono bw2.size), hq, by rw [hgc]; exact bw2.size, by rw [hgw]; exact Nat.le_refl _, by rw [hgw]; exact Nat.le_succ _⟩
  clear hw1 hw2 hw3 b1 b2 b3 c3 bw2 wr1 z1 hgw hgr hgc hq hek
  go_enter Tryd.func5, Tryd.ntmps5
  go_wp2_with fail
  refine HNW.out.mono ?_
  rintro _ w1 ⟨rfl, rfl⟩
  go_wp2_with fail
  refine HNR.out.mono ?_
  rintro _ w2 ⟨rfl, rfl⟩
  go_wp2_with fail
  refine HNC.out.mono ?_
  rintro _ w3 ⟨rfl, rfl⟩
  clear HNW HNR HNC
  go_wp2_with fail
  refine (read_nil1 (some ⟨gr, 0, none⟩) w3).mono ?_
  rintro _ w4 ⟨rfl, b4⟩
  have C4 := Lib.hid (C3.out.below b4)
  have HV0 : Hid (evV ev0 = .agg #[.int .u8 0, .int .i64 0, .int .i64 0, .int .i64 0, .int .i64 0, .int .i64 0, .int .u8 0]) := rfl
  rw [HV0.out]
  clear b4 C3
  go_wp2_with fail
  have C5 : Hid (CW w gc gw (gw + 1) 1000 (newQ 2 3 2) [] (w4.alloc (.cells #[.int .u8 0, .int .i64 0, .int .i64 0, .int .i64 0, .int .i64 0, .int .i64 0, .int .u8 0] 41))) := C4.out.below ((Below.refl _ _).alloc (Nat.le_refl _) _)
  generalize w4.alloc (.cells #[.int .u8 0, .int .i64 0, .int .i64 0, .int .i64 0, .int .i64 0, .int .i64 0, .int .u8 0] 41) = w5 at C5 ⊢
  generalize w4.heap.size = g5
  clear C4
  refine (read_nil2 _ C5.out.ok gc w5 C5.out.cod).mono ?_
  rintro _ w6 ⟨rfl, b6⟩
  have C6 := Lib.hid (C5.out.below b6)
  rw [HV0.out]
  clear b6 C5
  go_wp2_with fail
  have C7 : Hid (CW w gc gw (gw + 1) 1000 (newQ 2 3 2) [] (w6.alloc (.cells #[.int .u8 0, .int .i64 0, .int .i64 0, .int .i64 0, .int .i64 0, .int .i64 0, .int .u8 0] 41))) := C6.out.below ((Below.refl _ _).alloc (Nat.le_refl _) _)
  generalize w6.alloc (.cells #[.int .u8 0, .int .i64 0, .int .i64 0, .int .i64 0, .int .i64 0, .int .i64 0, .int .u8 0] 41) = w7 at C7 ⊢
  generalize w6.heap.size = g7
  clear C6
  have h1 := write_nil1 ev0 (.pointer (some ⟨gw, 0, none⟩)) w7
  rw [HV0.out] at h1
  refine h1.mono ?_
  rintro _ w8 ⟨rfl, b8⟩
  have C8 := Lib.hid (C7.out.below b8)
  clear h1 b8 C7
  go_wp2_with fail
  refine (copy_nilD w8).mono ?_
  rintro _ w9 ⟨rfl, rfl⟩
  go_wp2_with fail
  have h1 := write_nil2 ev0 _ C8.out.ok gc w8 C8.out.cod
  rw [HV0.out] at h1
  refine h1.mono ?_
  rintro _ w9 ⟨rfl, b9⟩
  have C9 := Lib.hid (C8.out.below b9)
  clear h1 b9 C8
  go_wp2_with fail
  have hr : (w9.alloc (.cells #[.int .i64 0, .int .i64 1, .int .i64 1, .int .i64 7, .int .i64 1, .int .i64 1, .int .i64 1, .int .i64 0, .int .i64 0, .int .i64 1, .int .i64 33, .int .i64 1, .int .i64 1, .int .i64 2, .int .i64 3, .int .i64 1, .int .i64 2, .int .i64 0] 62)).heap[w9.heap.size]? = some (.cells sizC 62 (0, 0)) := heap_alloc_new w9 _
  have C10 : Hid (CW w gc gw (gw + 1) 1000 (newQ 2 3 2) [] (w9.alloc (.cells #[.int .i64 0, .int .i64 1, .int .i64 1, .int .i64 7, .int .i64 1, .int .i64 1, .int .i64 1, .int .i64 0, .int .i64 0, .int .i64 1, .int .i64 33, .int .i64 1, .int .i64 1, .int .i64 2, .int .i64 3, .int .i64 1, .int .i64 2, .int .i64 0] 62))) := C9.out.below ((Below.refl _ _).alloc (Nat.le_refl _) _)
  generalize w9.alloc (.cells #[.int .i64 0, .int .i64 1, .int .i64 1, .int .i64 7, .int .i64 1, .int .i64 1, .int .i64 1, .int .i64 0, .int .i64 0, .int .i64 1, .int .i64 33, .int .i64 1, .int .i64 1, .int .i64 2, .int .i64 3, .int .i64 1, .int .i64 2, .int .i64 0] 62) = W1 at hr C10 ⊢
  generalize w9.heap.size = gs at hr ⊢
  have HR := Lib.hid hr
  have HX : Hid (∀ k, k < 6 → ∃ x y z : Int, sizeD x y z = false ∧ sizC[k * 3 + 0]? = some (.int .i64 x) ∧ sizC[k * 3 + 1]? = some (.int .i64 y) ∧ sizC[k * 3 + 2]? = some (.int .i64 z)) := fun k hk => by
    obtain ⟨x, y, z, h1, h2⟩ := sizRow k hk
    exact ⟨x, y, z, h2, h1⟩
  clear hr C9
  go_loopw [96] (fun i wr => ∃ k : Nat, k ≤ 6 ∧ i = .int .i64 k ∧ Hid (Below W1.heap.size W1 wr)) (fun i _ => 6 - (intOf i).toNat)
  case atStart => exact ⟨0, by omega, rfl, Below.refl _ _⟩
  case round =>
    obtain ⟨k, hk, rfl, hB⟩ := hrel
    by_cases hlt : k < 6
    · obtain ⟨x, y, z, hz, k0, k1, k2⟩ := HX.out k hlt
      have hrow := row_stays HR.out hB.out
      have x0 : wr.cell? ⟨gs, k * 3, none⟩ = some (.int .i64 x) := (cell_of_row wr gs (k * 3 + 0) _ _ _ hrow).trans k0
      have x1 : wr.cell? ⟨gs, k * 3 + 1, none⟩ = some (.int .i64 y) := (cell_of_row wr gs (k * 3 + 1) _ _ _ hrow).trans k1
      have x2 : wr.cell? ⟨gs, k * 3 + 2, none⟩ = some (.int .i64 z) := (cell_of_row wr gs (k * 3 + 2) _ _ _ hrow).trans k2
      have HZ := Lib.hid (fun W => new_noD x y z hz W)
      have i1 : (k : Int) < 6 := by omega
      have i2 : (0 : Int) ≤ (k : Int) := by omega
      have B2 : Hid (Below W1.heap.size W1 (wr.alloc (.cells #[.int .i64 x, .int .i64 y, .int .i64 z] 62))) := hB.out.alloc hB.out.size _
      clear hrow k0 k1 k2 hz
      go_wp2_with fail
      refine (HZ.out _).mono ?_
      rintro _ w5 ⟨rfl, rfl⟩
      clear x0 x1 x2 HZ
      go_wp2_with fail
      refine ⟨?_, ?measure⟩
      · exact ⟨k + 1, by omega, by go_num, B2⟩
      case measure => simp [intOf]; omega
    · obtain rfl : k = 6 := by omega
      have CA := Lib.hid (C10.out.below hB.out)
      have HQ1 : wrE (newQ 2 3 2) 1000 [] ⟨1, 0, 0, 0, 5, 0, 0⟩ = 0 := by kernel_rfl
      obtain ⟨l1, hl1⟩ : ∃ l, wrL (newQ 2 3 2) 1000 [] ⟨1, 0, 0, 0, 5, 0, 0⟩ = l := ⟨_, rfl⟩
      have h1 := write_cw HEK.out CA.out ⟨1, 0, 0, 0, 5, 0, 0⟩ (ev_okD _ (by decide))
      rw [HQ1, hl1, show wrQ (newQ 2 3 2) 1000 [] ⟨1, 0, 0, 0, 5, 0, 0⟩ = nmQ from rfl, show evV ⟨1, 0, 0, 0, 5, 0, 0⟩ = .agg #[.int .u8 1, .int .i64 0, .int .i64 0, .int .i64 0, .int .i64 5, .int .i64 0, .int .u8 0] from rfl] at h1
      have H1 := Lib.hid h1
      clear h1 HQ1 hl1 HX HR C10 hB hlt hk
      go_wp2_with fail
      refine H1.out.mono ?_
      rintro _ w11 ⟨rfl, c11, _⟩
      have C11 := Lib.hid c11
      clear c11 H1 CA
      go_wp2_with fail
      have hr : (w11.alloc (.cells #[.int .u8 0, .int .i64 0, .int .i64 0, .int .i64 0, .int .i64 0, .int .i64 0, .int .u8 0, .int .u8 1, .int .i64 2, .int .i64 0, .int .i64 0, .int .i64 9, .int .i64 0, .int .u8 0, .int .u8 1, .int .i64 0, .int .i64 0, .int .i64 0, .int .i64 4, .int .i64 0, .int .u8 0, .int .u8 2, .int .i64 0, .int .i64 0, .int .i64 0, .int .i64 6, .int .i64 0, .int .u8 0, .int .u8 2, .int .i64 1, .int .i64 0, .int .i64 0, .int .i64 1, .int .i64 0, .int .u8 0, .int .u8 5, .int .i64 0, .int .i64 0, .int .i64 0, .int .i64 5, .int .i64 0, .int .u8 0, .int .u8 7, .int .i64 0, .int .i64 0, .int .i64 0, .int .i64 5, .int .i64 0, .int .u8 0] 41)).heap[w11.heap.size]? = some (.cells badC 41 (0, 0)) := heap_alloc_new w11 _
      have C12 : Hid (CW w gc gw (gw + 1) 1000 nmQ l1 (w11.alloc (.cells #[.int .u8 0, .int .i64 0, .int .i64 0, .int .i64 0, .int .i64 0, .int .i64 0, .int .u8 0, .int .u8 1, .int .i64 2, .int .i64 0, .int .i64 0, .int .i64 9, .int .i64 0, .int .u8 0, .int .u8 1, .int .i64 0, .int .i64 0, .int .i64 0, .int .i64 4, .int .i64 0, .int .u8 0, .int .u8 2, .int .i64 0, .int .i64 0, .int .i64 0, .int .i64 6, .int .i64 0, .int .u8 0, .int .u8 2, .int .i64 1, .int .i64 0, .int .i64 0, .int .i64 1, .int .i64 0, .int .u8 0, .int .u8 5, .int .i64 0, .int .i64 0, .int .i64 0, .int .i64 5, .int .i64 0, .int .u8 0, .int .u8 7, .int .i64 0, .int .i64 0, .int .i64 0, .int .i64 5, .int .i64 0, .int .u8 0] 41))) := C11.out.below ((Below.refl _ _).alloc (Nat.le_refl _) _)
      generalize w11.alloc (.cells #[.int .u8 0, .int .i64 0, .int .i64 0, .int .i64 0, .int .i64 0, .int .i64 0, .int .u8 0, .int .u8 1, .int .i64 2, .int .i64 0, .int .i64 0, .int .i64 9, .int .i64 0, .int .u8 0, .int .u8 1, .int .i64 0, .int .i64 0, .int .i64 0, .int .i64 4, .int .i64 0, .int .u8 0, .int .u8 2, .int .i64 0, .int .i64 0, .int .i64 0, .int .i64 6, .int .i64 0, .int .u8 0, .int .u8 2, .int .i64 1, .int .i64 0, .int .i64 0, .int .i64 1, .int .i64 0, .int .u8 0, .int .u8 5, .int .i64 0, .int .i64 0, .int .i64 0, .int .i64 5, .int .i64 0, .int .u8 0, .int .u8 7, .int .i64 0, .int .i64 0, .int .i64 0, .int .i64 5, .int .i64 0, .int .u8 0] 41) = W2 at hr C12 ⊢
      generalize w11.heap.size = gs2 at hr ⊢
      have HR := Lib.hid hr
      have HX : Hid (∀ k, k < 7 → ∃ e : Ev, (mayT nmQ e = false ∧ EvOk e) ∧ badC[k * 7 + 0]? = some (.int .u8 e.kd) ∧ badC[k * 7 + 1]? = some (.int .i64 e.th) ∧ badC[k * 7 + 2]? = some (.int .i64 e.tx) ∧ badC[k * 7 + 3]? = some (.int .i64 e.pl) ∧ badC[k * 7 + 4]? = some (.int .i64 e.v) ∧ badC[k * 7 + 5]? = some (.int .i64 e.x) ∧ badC[k * 7 + 6]? = some (.int .u8 e.why)) := fun k hk => by
        obtain ⟨e, h1, h2, h3⟩ := badRow k hk
        exact ⟨e, ⟨h2, h3⟩, h1⟩
      clear hr C11
      go_loopw [131] (fun i wr => ∃ k : Nat, k ≤ 7 ∧ i = .int .i64 k ∧ Hid (CW w gc gw (gw + 1) 1000 nmQ l1 wr) ∧ Hid (wr.heap[gs2]? = some (.cells badC 41 (0, 0)))) (fun i _ => 7 - (intOf i).toNat)
      case atStart => exact ⟨0, by omega, rfl, C12, HR⟩
      case round =>
        obtain ⟨k, hk, rfl, hC, hR⟩ := hrel
        by_cases hlt : k < 7
        · obtain ⟨e, hme, k0, k1, k2, k3, k4, k5, k6⟩ := HX.out k hlt
          have hrow := hR.out
          have x0 : wr.cell? ⟨gs2, k * 7, none⟩ = some (.int .u8 e.kd) := (cell_of_row wr gs2 (k * 7 + 0) _ _ _ hrow).trans k0
          have x1 : wr.cell? ⟨gs2, k * 7 + 1, none⟩ = some (.int .i64 e.th) := (cell_of_row wr gs2 (k * 7 + 1) _ _ _ hrow).trans k1
          have x2 : wr.cell? ⟨gs2, k * 7 + 2, none⟩ = some (.int .i64 e.tx) := (cell_of_row wr gs2 (k * 7 + 2) _ _ _ hrow).trans k2
          have x3 : wr.cell? ⟨gs2, k * 7 + 3, none⟩ = some (.int .i64 e.pl) := (cell_of_row wr gs2 (k * 7 + 3) _ _ _ hrow).trans k3
          have x4 : wr.cell? ⟨gs2, k * 7 + 4, none⟩ = some (.int .i64 e.v) := (cell_of_row wr gs2 (k * 7 + 4) _ _ _ hrow).trans k4
          have x5 : wr.cell? ⟨gs2, k * 7 + 5, none⟩ = some (.int .i64 e.x) := (cell_of_row wr gs2 (k * 7 + 5) _ _ _ hrow).trans k5
          have x6 : wr.cell? ⟨gs2, k * 7 + 6, none⟩ = some (.int .u8 e.why) := (cell_of_row wr gs2 (k * 7 + 6) _ _ _ hrow).trans k6
          have HME := Lib.hid hme
          have i1 : (k : Int) < 7 := by omega
          have i2 : (0 : Int) ≤ (k : Int) := by omega
          clear hrow k0 k1 k2 k3 k4 k5 k6 hme
          go_wp2_with fail
          have b5 : Below wr.heap.size wr (wr.alloc (.cells #[.int .u8 e.kd, .int .i64 e.th, .int .i64 e.tx, .int .i64 e.pl, .int .i64 e.v, .int .i64 e.x, .int .u8 e.why] 41)) := (Below.refl _ _).alloc (Nat.le_refl _) _
          have e5 : EvO (wr.alloc (.cells #[.int .u8 e.kd, .int .i64 e.th, .int .i64 e.tx, .int .i64 e.pl, .int .i64 e.v, .int .i64 e.x, .int .u8 e.why] 41)) wr.heap.size e := heap_alloc_new wr _
          have C5 := Lib.hid (hC.out.below b5)
          have R5 := Lib.hid (row_stays hR.out b5)
          clear b5 x0 x1 x2 x3 x4 x5 x6
          generalize wr.alloc (.cells #[.int .u8 e.kd, .int .i64 e.th, .int .i64 e.tx, .int .i64 e.pl, .int .i64 e.v, .int .i64 e.x, .int .u8 e.why] 41) = w5 at e5 C5 R5 ⊢
          generalize wr.heap.size = gx at e5 ⊢
          have HL5 := Lib.hid (len_w (gw + 1) gw 1000 l1 w5 C5.out.wr)
          obtain ⟨y0, y1, y2, y3, y4, y5, y6⟩ := evsix e5
          have hW := write_cw HEK.out C5.out e HME.out.2
          have hwt : wrE nmQ 1000 l1 e = 4 ∧ wrL nmQ 1000 l1 e = l1 ∧ wrQ nmQ 1000 l1 e = nmQ := by
            unfold wrE wrL wrQ
            rw [HME.out.1]
            exact ⟨by simp, by simp, by simp⟩
          rw [hwt.1, hwt.2.1, hwt.2.2, show evV e = .agg #[.int .u8 e.kd, .int .i64 e.th, .int .i64 e.tx, .int .i64 e.pl, .int .i64 e.v, .int .i64 e.x, .int .u8 e.why] from rfl] at hW
          have HW := Lib.hid hW
          have q2 : ((l1.length : Int) != (l1.length : Int)) = false := by simp
          clear hW hwt e5
          refine HL5.out.mono ?_
          rintro _ w6 ⟨rfl, rfl⟩
          go_wp2_with fail
          refine HW.out.mono ?_
          rintro _ w6 ⟨rfl, c6, f6⟩
          have C6 := Lib.hid c6
          have R6 : Hid (w6.heap[gs2]? = some (.cells badC 41 (0, 0))) := by
            obtain ⟨v, hv⟩ := C5.out.wr
            exact f6.cells R5.out (by decide) (Obj.unlike (w := w5) (g := gs2) (t := 41) R5.out hv.1 (by decide)) (Obj.unlike (w := w5) (g := gs2) (t := 41) R5.out C5.out.cod (by decide))
          have HL6 := Lib.hid (len_w (gw + 1) gw 1000 l1 w6 c6.wr)
          clear c6 f6 HW HL5 C5 R5 y0 y1 y2 y3 y4 y5 y6 HME
          go_wp2_with fail
          refine HL6.out.mono ?_
          rintro _ w7 ⟨rfl, rfl⟩
          go_wp2_with fail
          refine ⟨?_, ?measure⟩
          · exact ⟨k + 1, by omega, by go_num, C6, R6⟩
          case measure => simp [intOf]; omega
        · obtain rfl : k = 7 := by omega
          have HNW := Lib.hid (new_writer 15 (by decide) (by decide) wr)
          obtain ⟨w5, hw5⟩ : ∃ w5, wr.alloc (.cells #[.int .i64 15, .slice none 0 0] 84) = w5 := ⟨_, rfl⟩
          have b5 : Below wr.heap.size wr w5 := by rw [← hw5]; exact (Below.refl _ _).alloc (Nat.le_refl _) _
          have wr5 : Wr w5 (wr.heap.size + 1) wr.heap.size 15 [] := by rw [← hw5]; exact wr_new 15 (by decide) (by decide) wr
          have z5 : wr.heap.size + 1 ≤ w5.heap.size := by rw [← hw5]; simp
          rw [hw5] at HNW
          obtain ⟨gv, hgv⟩ : ∃ g, g = wr.heap.size := ⟨_, rfl⟩
          rw [← hgv] at HNW wr5 z5
          have hs := hC.out.bel.size
          have CB : Hid (CW w gc gv (gv + 1) 15 nmQ [] w5) := ⟨hC.out.cod.below b5, wr5, z5, hC.out.bel.trans (b5.mono hs), hC.out.ok, hC.out.n1, by rw [hgv]; exact hs, by rw [hgv]; exact Nat.le_succ_of_le hs⟩
          have HQ2 : wrE nmQ 15 [] ⟨3, 0, 0, 2, 0, -9223372036854775808, 0⟩ = 0 := by kernel_rfl
          have h1 := write_cw HEK.out CB.out ⟨3, 0, 0, 2, 0, -9223372036854775808, 0⟩ (ev_okD _ (by decide))
          rw [HQ2, show evV ⟨3, 0, 0, 2, 0, -9223372036854775808, 0⟩ = .agg #[.int .u8 3, .int .i64 0, .int .i64 0, .int .i64 2, .int .i64 0, .int .i64 (-9223372036854775808), .int .u8 0] from rfl] at h1
          have H1 := Lib.hid h1
          clear h1 HQ2 hw5 b5 wr5 z5 hgv hs hC hR HX HR C12 hk hlt
          go_wp2_with fail
          refine HNW.out.mono ?_
          rintro _ w5 ⟨rfl, rfl⟩
          go_wp2_with fail
          refine H1.out.mono ?_
          rintro _ w6 ⟨rfl, c6, _⟩
          have B6 := Lib.hid c6.bel
          clear c6 H1 HNW CB
          go_wp2_with fail
          have hr : (w6.alloc (.cells #[.string ⟨#[]⟩, .int .i64 0, .int .i64 8, .string ⟨#[26]⟩, .int .i64 0, .int .i64 20, .string ⟨#[0, 6]⟩, .int .i64 1, .int .i64 20, .string ⟨#[2, 2]⟩, .int .i64 1, .int .i64 20, .string ⟨#[2, 0, 1]⟩, .int .i64 2, .int .i64 20, .string ⟨#[8, 0]⟩, .int .i64 1, .int .i64 20, .string ⟨#[12, 1]⟩, .int .i64 1, .int .i64 20, .string ⟨#[12, 2]⟩, .int .i64 1, .int .i64 20, .string ⟨#[18, 6]⟩, .int .i64 1, .int .i64 20, .string ⟨#[18, 5]⟩, .int .i64 0, .int .i64 0, .string ⟨#[6]⟩, .int .i64 1, .int .i64 8, .string ⟨#[128, 0]⟩, .int .i64 0, .int .i64 11] 64)).heap[w6.heap.size]? = some (.cells txtC 64 (0, 0)) := heap_alloc_new w6 _
          have B7 : Hid (Below w.heap.size w (w6.alloc (.cells #[.string ⟨#[]⟩, .int .i64 0, .int .i64 8, .string ⟨#[26]⟩, .int .i64 0, .int .i64 20, .string ⟨#[0, 6]⟩, .int .i64 1, .int .i64 20, .string ⟨#[2, 2]⟩, .int .i64 1, .int .i64 20, .string ⟨#[2, 0, 1]⟩, .int .i64 2, .int .i64 20, .string ⟨#[8, 0]⟩, .int .i64 1, .int .i64 20, .string ⟨#[12, 1]⟩, .int .i64 1, .int .i64 20, .string ⟨#[12, 2]⟩, .int .i64 1, .int .i64 20, .string ⟨#[18, 6]⟩, .int .i64 1, .int .i64 20, .string ⟨#[18, 5]⟩, .int .i64 0, .int .i64 0, .string ⟨#[6]⟩, .int .i64 1, .int .i64 8, .string ⟨#[128, 0]⟩, .int .i64 0, .int .i64 11] 64))) := B6.out.alloc B6.out.size _
          generalize w6.alloc (.cells #[.string ⟨#[]⟩, .int .i64 0, .int .i64 8, .string ⟨#[26]⟩, .int .i64 0, .int .i64 20, .string ⟨#[0, 6]⟩, .int .i64 1, .int .i64 20, .string ⟨#[2, 2]⟩, .int .i64 1, .int .i64 20, .string ⟨#[2, 0, 1]⟩, .int .i64 2, .int .i64 20, .string ⟨#[8, 0]⟩, .int .i64 1, .int .i64 20, .string ⟨#[12, 1]⟩, .int .i64 1, .int .i64 20, .string ⟨#[12, 2]⟩, .int .i64 1, .int .i64 20, .string ⟨#[18, 6]⟩, .int .i64 1, .int .i64 20, .string ⟨#[18, 5]⟩, .int .i64 0, .int .i64 0, .string ⟨#[6]⟩, .int .i64 1, .int .i64 8, .string ⟨#[128, 0]⟩, .int .i64 0, .int .i64 11] 64) = W3 at hr B7 ⊢
          generalize w6.heap.size = gs3 at hr ⊢
          have HR := Lib.hid hr
          have HX : Hid (∀ k, k < 12 → ∃ (s : ByteArray) (p : Nat) (er : Int), (s.size ≤ 16 ∧ (rdX (newQ 2 3 2) s 0 0).2.2 = er ∧ (er ≠ 0 → (rdX (newQ 2 3 2) s 0 0).2.1 = p) ∧ (er = 0 → p = 0)) ∧ txtC[k * 3 + 0]? = some (.string s) ∧ txtC[k * 3 + 1]? = some (.int .i64 (p : Int)) ∧ txtC[k * 3 + 2]? = some (.int .i64 er)) := fun k hk => by
            obtain ⟨s, p, er, h1, h2⟩ := txtRow k hk
            exact ⟨s, p, er, h2, h1⟩
          have HNC := Lib.hid (fun W => new_yesD 2 3 2 (by decide) W)
          clear hr B6
          go_loopw [176] (fun i wr => ∃ k : Nat, k ≤ 12 ∧ i = .int .i64 k ∧ Hid (Below W3.heap.size W3 wr)) (fun i _ => 12 - (intOf i).toNat)
          case atStart => exact ⟨0, by omega, rfl, Below.refl _ _⟩
          case round =>
            obtain ⟨k, hk, rfl, hB⟩ := hrel
            by_cases hlt : k < 12
            · obtain ⟨s, p, er, ht, k0, k1, k2⟩ := HX.out k hlt
              have hrow := row_stays HR.out hB.out
              have x0 : wr.cell? ⟨gs3, k * 3, none⟩ = some (.string s) := (cell_of_row wr gs3 (k * 3 + 0) _ _ _ hrow).trans k0
              have x1 : wr.cell? ⟨gs3, k * 3 + 1, none⟩ = some (.int .i64 (p : Int)) := (cell_of_row wr gs3 (k * 3 + 1) _ _ _ hrow).trans k1
              have x2 : wr.cell? ⟨gs3, k * 3 + 2, none⟩ = some (.int .i64 er) := (cell_of_row wr gs3 (k * 3 + 2) _ _ _ hrow).trans k2
              have HT := Lib.hid ht
              have i1 : (k : Int) < 12 := by omega
              have i2 : (0 : Int) ≤ (k : Int) := by omega
              clear hrow k0 k1 k2 ht
              go_wp2_with fail
              have B5 : Hid (Below W3.heap.size W3 (wr.alloc (.cells #[.string s, .int .i64 (p : Int), .int .i64 er] 64))) := hB.out.alloc hB.out.size _
              have r5 : (wr.alloc (.cells #[.string s, .int .i64 (p : Int), .int .i64 er] 64)).heap[wr.heap.size]? = some (.cells #[.string s, .int .i64 (p : Int), .int .i64 er] 64 (0, 0)) := heap_alloc_new wr _
              generalize wr.alloc (.cells #[.string s, .int .i64 (p : Int), .int .i64 er] 64) = w5 at B5 r5 ⊢
              generalize wr.heap.size = gx at r5 ⊢
              have R5 := Lib.hid r5
              clear r5 x0 x1 x2
              refine (HNC.out w5).mono ?_
              rintro _ w6 ⟨rfl, h6⟩
              have b6 : Below w5.heap.size w5 w6 := by rw [h6]; exact (Below.refl _ _).alloc (Nat.le_refl _) _
              have c6 : CodAt w6 w5.heap.size (newQ 2 3 2) := by rw [h6]; exact heap_alloc_new w5 _
              obtain ⟨gq, hgq⟩ : ∃ g, g = w5.heap.size := ⟨_, rfl⟩
              rw [← hgq] at c6 ⊢
              have NQ : Hid (W3.heap.size ≤ gq) := by show _ ≤ _; rw [hgq]; exact B5.out.size
              have R6 := Lib.hid (row_stays R5.out b6)
              have C6 := Lib.hid c6
              have B6 := Lib.hid (B5.out.trans (b6.mono B5.out.size))
              have y0 : w6.cell? ⟨gx, 0, none⟩ = some (.string s) := cell_of_row w6 gx 0 _ _ _ R6.out
              have HNR := Lib.hid (new_reader s (by have := HT.out.1; omega) w6)
              clear h6 b6 c6 hgq B5 R5
              go_wp2_with fail
              refine HNR.out.mono ?_
              rintro _ w7 ⟨rfl, h7⟩
              have b7 : Below w6.heap.size w6 w7 := by rw [h7]; exact (Below.refl _ _).alloc (Nat.le_refl _) _
              have rd7 : Rd w7 w6.heap.size s 0 0 := by rw [h7]; exact rd_new s (by have := HT.out.1; omega) w6
              obtain ⟨gk, hgk⟩ : ∃ g, g = w6.heap.size := ⟨_, rfl⟩
              rw [← hgk] at rd7 ⊢
              have NK : Hid (W3.heap.size ≤ gk) := by show _ ≤ _; rw [hgk]; exact B6.out.size
              have R7 := Lib.hid (row_stays R6.out b7)
              have C7 := Lib.hid (C6.out.below b7)
              have D7 := Lib.hid rd7
              have B7 := Lib.hid (B6.out.trans (b7.mono B6.out.size))
              have hrd := read_anyD _ (newQ_ok (by decide)) gq gk s 0 0 w7 C7.out D7.out
              unfold ReadP at hrd
              rw [HT.out.2.1] at hrd
              generalize rdV (newQ 2 3 2) s 0 0 = e at hrd
              rw [show evV e = .agg #[.int .u8 e.kd, .int .i64 e.th, .int .i64 e.tx, .int .i64 e.pl, .int .i64 e.v, .int .i64 e.x, .int .u8 e.why] from rfl] at hrd
              have HRD := Lib.hid hrd
              clear hrd h7 b7 rd7 hgk y0 HNR B6 R6 C6
              go_wp2_with fail
              refine HRD.out.mono ?_
              rintro _ w8 ⟨rfl, r8, _, k8⟩
              have m1 : gx ≠ gk := Obj.unlike (w := w7) (g := gx) (t := 64) R7.out D7.out.1 (by decide)
              have m2 : gx ≠ gq := Obj.unlike (w := w7) (g := gx) (g' := gq) (t := 64) (t' := 78) R7.out C7.out (by decide)
              have r8x : w8.heap[gx]? = some (.cells #[.string s, .int .i64 (p : Int), .int .i64 er] 64 (0, 0)) := (k8.block gx (Array.getElem?_eq_some_iff.1 R7.out).1 m1 (fun x => m2 (Option.some.inj x))).trans R7.out
              have b8 : Below W3.heap.size W3 w8 := ⟨k8.os.trans B7.out.os, k8.tape.trans B7.out.tape, k8.output.trans B7.out.output, Nat.le_trans B7.out.size k8.size, fun i hi => (k8.block i (Nat.lt_of_lt_of_le hi B7.out.size) (by have := NK.out; omega) (fun x => by have := NQ.out; have := Option.some.inj x; omega)).trans (B7.out.block i hi)⟩
              have b9 : Below w8.heap.size w8 (w8.alloc (.cells #[.int .u8 e.kd, .int .i64 e.th, .int .i64 e.tx, .int .i64 e.pl, .int .i64 e.v, .int .i64 e.x, .int .u8 e.why] 41)) := (Below.refl _ _).alloc (Nat.le_refl _) _
              have R9 := Lib.hid (row_stays r8x b9)
              have D9 := Lib.hid (rd_more r8 b9)
              have B9 := Lib.hid (b8.trans (b9.mono b8.size))
              clear r8 k8 m1 m2 r8x b8 b9 HRD R7 C7 D7 B7 NQ NK
              go_wp2_with fail
              generalize w8.alloc (.cells #[.int .u8 e.kd, .int .i64 e.th, .int .i64 e.tx, .int .i64 e.pl, .int .i64 e.v, .int .i64 e.x, .int .u8 e.why] 41) = w9 at R9 D9 B9 ⊢
              generalize w8.heap.size = gy
              have q2 : (er != er) = false := by simp
              have q3 : ((p : Int) != (p : Int)) = false := by simp
              by_cases her : er = 0
              · have hp0 := HT.out.2.2.2 her
                have D9b := D9.out
                rw [her] at D9b
                have y1 : w9.cell? ⟨gx, 1, none⟩ = some (.int .i64 (p : Int)) := cell_of_row w9 gx 1 _ _ _ R9.out
                have y2 : w9.cell? ⟨gx, 2, none⟩ = some (.int .i64 er) := cell_of_row w9 gx 2 _ _ _ R9.out
                refine (wrong_no gk s _ w9 D9b).mono ?_
                rintro _ w10 ⟨rfl, rfl⟩
                subst her hp0
                clear D9b D9 R9 HT
                go_wp2_with fail
                refine ⟨?_, ?measure⟩
                · exact ⟨k + 1, by omega, by go_num, B9⟩
                case measure => simp [intOf]; omega
              · have hpe := HT.out.2.2.1 her
                have D9b := D9.out
                rw [hpe] at D9b
                refine (wrong_yes gk s p er her w9 D9b).mono ?_
                rintro _ w10 ⟨rfl, n10, h10⟩
                have b10 : Below w9.heap.size w9 w10 := by rw [h10]; exact drewN_belowW w9 n10
                have R10 := row_stays R9.out b10
                have y1 : w10.cell? ⟨gx, 1, none⟩ = some (.int .i64 (p : Int)) := cell_of_row w10 gx 1 _ _ _ R10
                have y2 : w10.cell? ⟨gx, 2, none⟩ = some (.int .i64 er) := cell_of_row w10 gx 2 _ _ _ R10
                have B10 := Lib.hid (B9.out.trans (b10.mono B9.out.size))
                clear D9b D9 R9 R10 HT b10 h10 hpe her B9
                go_wp2_with fail
                refine ⟨?_, ?measure⟩
                · exact ⟨k + 1, by omega, by go_num, B10⟩
                case measure => simp [intOf]; omega
            · obtain rfl : k = 12 := by omega
              have BZ := Lib.hid (B7.out.trans (hB.out.mono B7.out.size))
              clear HX HR HNC
              go_wp2_with fail
              refine (HAW.out _ BZ.out).mono ?_
              rintro _ w5 ⟨rfl, b5⟩
              have B5 := Lib.hid (BZ.out.trans (b5.mono BZ.out.size))
              clear b5
              go_wp2_with fail
              go_ret
              exact ⟨rfl, B5.out⟩

end Go.Proofs.YtcomhnenfdoklaaDoor
