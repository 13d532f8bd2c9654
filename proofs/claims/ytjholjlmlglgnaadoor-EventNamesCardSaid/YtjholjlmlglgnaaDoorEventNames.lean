/-
  EventNames (closed): the examples; each Kind at its ends; what it has not: the call returns true; as its TIED CARD (the tables lie as the program's text lays them). Condition: the row's own (laid).
-/
import Derived.Test.YtjholjlmlglgnaaDoorWv
import Derived.Great.BuildSlice
namespace Go.Proofs.YtjholjlmlglgnaaDoor
set_option maxRecDepth 100000
open Go.ChangeShapes Go.WideShapes Go.ChangeAt Go.RowKit Go.WideElems Go.WideMaps
set_option linter.unusedVariables false
def exE : List (Ev × Bool) := [(⟨1, 2, 5, 0, 1099511627776, 0, 0⟩, true), (⟨1, 3, 0, 0, 0, 0, 0⟩, false), (⟨1, 0, 6, 0, 0, 0, 0⟩, false), (⟨1, 0, 0, 0, 1099511627777, 0, 0⟩, false), (⟨1, -1, 0, 0, 0, 0, 0⟩, false), (⟨1, 0, 0, 1, 0, 0, 0⟩, false), (⟨2, 0, 0, 1, 4, 0, 0⟩, true), (⟨2, 0, 0, 2, 0, 0, 0⟩, false), (⟨2, 0, 0, 0, 0, 1, 0⟩, false), (⟨2, 0, 0, 0, -1, 0, 0⟩, false), (⟨3, 0, 0, 3, 0, -9223372036854775808, 0⟩, true), (⟨3, 0, 0, 4, 0, 0, 0⟩, false), (⟨3, 0, 0, 0, 1, 0, 0⟩, false), (⟨3, 0, 0, -1, 0, 0, 0⟩, false), (⟨4, 0, 0, 1, 0, 0, 0⟩, true), (⟨5, 0, 0, 0, 0, 0, 0⟩, false), (⟨5, 0, 0, 0, 1, 0, 0⟩, true), (⟨6, 0, 0, 1, 0, 0, 0⟩, true), (⟨7, 0, 0, 0, 0, 0, 0⟩, true), (⟨7, 0, 1, 0, 0, 0, 0⟩, false), (⟨8, 0, 0, 3, 0, 0, 0⟩, true), (⟨9, 0, 0, 1, 0, 0, 0⟩, true), (⟨10, 0, 0, 0, 0, 0, 0⟩, false), (⟨10, 0, 0, 1, 0, 0, 1⟩, true), (⟨10, 0, 0, 0, 0, 0, 6⟩, true), (⟨10, 0, 0, 1, 0, 0, 6⟩, false), (⟨10, 0, 0, 0, 0, 0, 7⟩, false), (⟨11, 0, 0, 1, 0, 0, 0⟩, true), (⟨12, 0, 0, 0, 0, 0, 0⟩, true), (⟨12, 0, 0, 0, 0, 0, 1⟩, false), (⟨13, 1, 0, 0, 0, 0, 0⟩, true), (⟨0, 0, 0, 0, 0, 0, 0⟩, false), (⟨14, 0, 0, 0, 0, 0, 0⟩, false)]
def exV (x : Ev × Bool) : Value := .agg #[.int .u8 x.1.kd, .int .i64 x.1.th, .int .i64 x.1.tx, .int .i64 x.1.pl, .int .i64 x.1.v, .int .i64 x.1.x, .int .u8 x.1.why, .bool x.2]
theorem exRow : ∀ k, k < 33 → ∃ (e : Ev) (m : Bool), exE[k]? = some (e, m) ∧ mayB e 3 4 2 = m ∧ EvOk e
  | 0, _ => ⟨⟨1, 2, 5, 0, 1099511627776, 0, 0⟩, true, rfl, by kernel_rfl, ev_okc _ (by kernel_rfl)⟩
  | 1, _ => ⟨⟨1, 3, 0, 0, 0, 0, 0⟩, false, rfl, by kernel_rfl, ev_okc _ (by kernel_rfl)⟩
  | 2, _ => ⟨⟨1, 0, 6, 0, 0, 0, 0⟩, false, rfl, by kernel_rfl, ev_okc _ (by kernel_rfl)⟩
  | 3, _ => ⟨⟨1, 0, 0, 0, 1099511627777, 0, 0⟩, false, rfl, by kernel_rfl, ev_okc _ (by kernel_rfl)⟩
  | 4, _ => ⟨⟨1, -1, 0, 0, 0, 0, 0⟩, false, rfl, by kernel_rfl, ev_okc _ (by kernel_rfl)⟩
  | 5, _ => ⟨⟨1, 0, 0, 1, 0, 0, 0⟩, false, rfl, by kernel_rfl, ev_okc _ (by kernel_rfl)⟩
  | 6, _ => ⟨⟨2, 0, 0, 1, 4, 0, 0⟩, true, rfl, by kernel_rfl, ev_okc _ (by kernel_rfl)⟩
  | 7, _ => ⟨⟨2, 0, 0, 2, 0, 0, 0⟩, false, rfl, by kernel_rfl, ev_okc _ (by kernel_rfl)⟩
  | 8, _ => ⟨⟨2, 0, 0, 0, 0, 1, 0⟩, false, rfl, by kernel_rfl, ev_okc _ (by kernel_rfl)⟩
  | 9, _ => ⟨⟨2, 0, 0, 0, -1, 0, 0⟩, false, rfl, by kernel_rfl, ev_okc _ (by kernel_rfl)⟩
  | 10, _ => ⟨⟨3, 0, 0, 3, 0, -9223372036854775808, 0⟩, true, rfl, by kernel_rfl, ev_okc _ (by kernel_rfl)⟩
  | 11, _ => ⟨⟨3, 0, 0, 4, 0, 0, 0⟩, false, rfl, by kernel_rfl, ev_okc _ (by kernel_rfl)⟩
  | 12, _ => ⟨⟨3, 0, 0, 0, 1, 0, 0⟩, false, rfl, by kernel_rfl, ev_okc _ (by kernel_rfl)⟩
  | 13, _ => ⟨⟨3, 0, 0, -1, 0, 0, 0⟩, false, rfl, by kernel_rfl, ev_okc _ (by kernel_rfl)⟩
  | 14, _ => ⟨⟨4, 0, 0, 1, 0, 0, 0⟩, true, rfl, by kernel_rfl, ev_okc _ (by kernel_rfl)⟩
  | 15, _ => ⟨⟨5, 0, 0, 0, 0, 0, 0⟩, false, rfl, by kernel_rfl, ev_okc _ (by kernel_rfl)⟩
  | 16, _ => ⟨⟨5, 0, 0, 0, 1, 0, 0⟩, true, rfl, by kernel_rfl, ev_okc _ (by kernel_rfl)⟩
  | 17, _ => ⟨⟨6, 0, 0, 1, 0, 0, 0⟩, true, rfl, by kernel_rfl, ev_okc _ (by kernel_rfl)⟩
  | 18, _ => ⟨⟨7, 0, 0, 0, 0, 0, 0⟩, true, rfl, by kernel_rfl, ev_okc _ (by kernel_rfl)⟩
  | 19, _ => ⟨⟨7, 0, 1, 0, 0, 0, 0⟩, false, rfl, by kernel_rfl, ev_okc _ (by kernel_rfl)⟩
  | 20, _ => ⟨⟨8, 0, 0, 3, 0, 0, 0⟩, true, rfl, by kernel_rfl, ev_okc _ (by kernel_rfl)⟩
  | 21, _ => ⟨⟨9, 0, 0, 1, 0, 0, 0⟩, true, rfl, by kernel_rfl, ev_okc _ (by kernel_rfl)⟩
  | 22, _ => ⟨⟨10, 0, 0, 0, 0, 0, 0⟩, false, rfl, by kernel_rfl, ev_okc _ (by kernel_rfl)⟩
  | 23, _ => ⟨⟨10, 0, 0, 1, 0, 0, 1⟩, true, rfl, by kernel_rfl, ev_okc _ (by kernel_rfl)⟩
  | 24, _ => ⟨⟨10, 0, 0, 0, 0, 0, 6⟩, true, rfl, by kernel_rfl, ev_okc _ (by kernel_rfl)⟩
  | 25, _ => ⟨⟨10, 0, 0, 1, 0, 0, 6⟩, false, rfl, by kernel_rfl, ev_okc _ (by kernel_rfl)⟩
  | 26, _ => ⟨⟨10, 0, 0, 0, 0, 0, 7⟩, false, rfl, by kernel_rfl, ev_okc _ (by kernel_rfl)⟩
  | 27, _ => ⟨⟨11, 0, 0, 1, 0, 0, 0⟩, true, rfl, by kernel_rfl, ev_okc _ (by kernel_rfl)⟩
  | 28, _ => ⟨⟨12, 0, 0, 0, 0, 0, 0⟩, true, rfl, by kernel_rfl, ev_okc _ (by kernel_rfl)⟩
  | 29, _ => ⟨⟨12, 0, 0, 0, 0, 0, 1⟩, false, rfl, by kernel_rfl, ev_okc _ (by kernel_rfl)⟩
  | 30, _ => ⟨⟨13, 1, 0, 0, 0, 0, 0⟩, true, rfl, by kernel_rfl, ev_okc _ (by kernel_rfl)⟩
  | 31, _ => ⟨⟨0, 0, 0, 0, 0, 0, 0⟩, false, rfl, by kernel_rfl, ev_okc _ (by kernel_rfl)⟩
  | 32, _ => ⟨⟨14, 0, 0, 0, 0, 0, 0⟩, false, rfl, by kernel_rfl, ev_okc _ (by kernel_rfl)⟩
  | k + 33, h => absurd h (by omega)
section
variable {a : Act} {w : World} {K : Act → World → Prop} {Q : Exit → Act → World → Prop} {o : Oper}
theorem n_lit33 (vs : List (Ev × Bool)) (parts : Array (Nat × Operand)) (ho : o.op = Op.buildSlice 39 vs.length parts) (h0 : 0 < vs.length) (h1 : vs.length ≤ 1000) (hp : (parts.map fun (i, x) => (i, a.eval x)).toList = ((vs.map exV).zipIdx 0).map fun x => (x.2, x.1))
    (hK : ∀ cur : Array Value, (∀ (j i : Nat) (r : Ev × Bool), vs[j]? = some r → i < 8 → cur[j * 8 + i]? = (exV r).cells[i]?) → K (a.put o.dst (.slice (some ⟨w.heap.size, 0, none⟩) vs.length vs.length)) (w.alloc (.cells cur 38))) : Oper.wp Tryd.prog o a w K Q := by
  obtain ⟨ie, hie, hz1, hz2, hzz⟩ : ∃ ie, Tryd.prog.info? 38 = some ie ∧ ie.size = 8 ∧ ie.zero = some (exV (ev0, false)) ∧ True := ⟨_, rfl, rfl, rfl, trivial⟩
  obtain ⟨r, hr, hs, hk⟩ := Great.fill_dense (s := 8) (by decide) (vs.map exV) 0 ((Array.range (vs.length * 8)).map ((exV (ev0, false)).cells[· % (exV (ev0, false)).cells.size]!)) (fun v hv => by obtain ⟨r, _, rfl⟩ := List.mem_map.1 hv; rfl) (by simp)
  refine wp_buildSlice 39 38 vs.length parts ho r ie _ Tryd.underlying39 hie hz2 (by rw [hz1]; omega) (by rw [hz1]; omega) ?_ (hK r fun j i q hq hi => ?_)
  · rw [hp, hz1]
    exact hr
  · have hj : j < vs.length := (List.getElem?_eq_some_iff.1 hq).1
    rw [hk, if_pos ⟨by omega, by simp only [List.length_map]; omega⟩, show (j * 8 + i) / 8 - 0 = j by omega, show (j * 8 + i) % 8 = i by omega, List.getElem?_map, hq]
    rfl
end
def rowS : Array Value := #[.string ⟨#[]⟩, .string ⟨#[49]⟩, .string ⟨#[49, 32, 108, 111, 111, 107, 32, 51]⟩, .string ⟨#[49, 32, 108, 111, 111, 107, 32, 51, 32, 55, 32, 48]⟩, .string ⟨#[55, 32, 119, 97, 105, 116]⟩, .string ⟨#[45, 49, 32, 119, 97, 105, 116]⟩, .string ⟨#[49, 32, 119, 97, 105, 116, 32]⟩, .string ⟨#[32, 49, 32, 119, 97, 105, 116]⟩, .string ⟨#[49, 32, 32, 119, 97, 105, 116]⟩, .string ⟨#[49, 32, 110, 111, 110, 101]⟩, .string ⟨#[49, 32, 108, 111, 97, 100, 32, 51, 50, 32, 49]⟩, .string ⟨#[49, 32, 108, 111, 97, 100, 32, 49, 32, 57, 50, 50, 51, 51, 55, 50, 48, 51, 54, 56, 53, 52, 55, 55, 53, 56, 48, 56]⟩, .string ⟨#[49, 32, 108, 111, 97, 100, 32, 49, 32, 45, 48]⟩, .string ⟨#[49, 32, 108, 111, 97, 100, 32, 49, 32, 43, 49]⟩, .string ⟨#[49, 32, 97, 98, 111, 114, 116, 32, 48, 32, 48]⟩, .string ⟨#[49, 32, 97, 98, 111, 114, 116, 32, 54, 32, 49]⟩, .string ⟨#[49, 32, 98, 101, 103, 105, 110, 32, 54, 32, 48]⟩]
theorem exText : ∀ k, k < 17 → ∃ t : ByteArray, t.size ≤ 100 ∧ parseF t.data.toList = (ev0, 4) ∧ rowS[k]? = some (.string t)
  | 0, _ => ⟨⟨#[]⟩, by decide, nparse0, rfl⟩
  | 1, _ => ⟨⟨#[49]⟩, by decide, nparse1, rfl⟩
  | 2, _ => ⟨⟨#[49, 32, 108, 111, 111, 107, 32, 51]⟩, by decide, nparse2, rfl⟩
  | 3, _ => ⟨⟨#[49, 32, 108, 111, 111, 107, 32, 51, 32, 55, 32, 48]⟩, by decide, nparse3, rfl⟩
  | 4, _ => ⟨⟨#[55, 32, 119, 97, 105, 116]⟩, by decide, nparse4, rfl⟩
  | 5, _ => ⟨⟨#[45, 49, 32, 119, 97, 105, 116]⟩, by decide, nparse5, rfl⟩
  | 6, _ => ⟨⟨#[49, 32, 119, 97, 105, 116, 32]⟩, by decide, nparse6, rfl⟩
  | 7, _ => ⟨⟨#[32, 49, 32, 119, 97, 105, 116]⟩, by decide, nparse7, rfl⟩
  | 8, _ => ⟨⟨#[49, 32, 32, 119, 97, 105, 116]⟩, by decide, nparse8, rfl⟩
  | 9, _ => ⟨⟨#[49, 32, 110, 111, 110, 101]⟩, by decide, nparse9, rfl⟩
  | 10, _ => ⟨⟨#[49, 32, 108, 111, 97, 100, 32, 51, 50, 32, 49]⟩, by decide, nparse10, rfl⟩
  | 11, _ => ⟨⟨#[49, 32, 108, 111, 97, 100, 32, 49, 32, 57, 50, 50, 51, 51, 55, 50, 48, 51, 54, 56, 53, 52, 55, 55, 53, 56, 48, 56]⟩, by decide, nparse11, rfl⟩
  | 12, _ => ⟨⟨#[49, 32, 108, 111, 97, 100, 32, 49, 32, 45, 48]⟩, by decide, nparse12, rfl⟩
  | 13, _ => ⟨⟨#[49, 32, 108, 111, 97, 100, 32, 49, 32, 43, 49]⟩, by decide, nparse13, rfl⟩
  | 14, _ => ⟨⟨#[49, 32, 97, 98, 111, 114, 116, 32, 48, 32, 48]⟩, by decide, nparse14, rfl⟩
  | 15, _ => ⟨⟨#[49, 32, 97, 98, 111, 114, 116, 32, 54, 32, 49]⟩, by decide, nparse15, rfl⟩
  | 16, _ => ⟨⟨#[49, 32, 98, 101, 103, 105, 110, 32, 54, 32, 48]⟩, by decide, nparse16, rfl⟩
  | k + 17, h => absurd h (by omega)
set_option maxHeartbeats 8000000 in
theorem EventNames_walk (w : World) (he : Ek w) :
    Calls Tryd.prog 5 #[] w fun r w' => r = .returned (.bool true) ∧ Below w.heap.size w w' := by
  have HA : Hid (∀ w1, Below w.heap.size w w1 → Calls Tryd.prog 9 #[] w1 fun r w' => r = .returned (.bool true) ∧ Below w1.heap.size w1 w') := fun w1 h => awake_any w1 (he.below h)
  have HN : Hid (∀ (k : Nat), k < 256 → Calls Tryd.prog 16 #[.int .u8 k] w fun r w' => r = .returned (.string (bsW (nmL k))) ∧ w = w') := fun k hk => name_any k hk w he
  have HK : Hid (∀ (k : Nat), 1 ≤ k → k ≤ 13 → Calls Tryd.prog 12 #[.string (bsW (nmL k))] w fun r w' => r = .returned (.tuple #[.int .u8 k, .bool true]) ∧ w = w') := fun k h1 h2 => by
    have h := kind_any (bsW (nmL k)) w he
    rw [bsW_list, kindF_nm h1 h2, show (k != 0) = true by simp; omega] at h
    exact h
  have HK0 : Hid (Calls Tryd.prog 12 #[.string ⟨#[]⟩] w fun r w' => r = .returned (.tuple #[.int .u8 0, .bool false]) ∧ w = w') := by
    have h := kind_any ⟨#[]⟩ w he
    rw [show kindF (⟨#[]⟩ : ByteArray).data.toList = 0 by kernel_rfl] at h
    exact h
  have HN0 : Hid (Calls Tryd.prog 16 #[.int .u8 0] w fun r w' => r = .returned (.string ⟨#[]⟩) ∧ w = w') := HN.out 0 (by omega)
  have HN14 : Hid (Calls Tryd.prog 16 #[.int .u8 14] w fun r w' => r = .returned (.string ⟨#[]⟩) ∧ w = w') := HN.out 14 (by omega)
  have HM : Hid (∀ (e : Ev) (b : Bool) (T V S : Int) w1, EvOk e → mayB e T V S = b → Below w.heap.size w w1 → Calls Tryd.prog 14 #[evV e, .int .i64 T, .int .i64 V, .int .i64 S] w1 fun r w' => r = .returned (.bool b) ∧ Below w1.heap.size w1 w') := fun e b T V S w1 ok hb h => hb ▸ may_any e ok T V S w1 (he.below h)
  have HMW : Hid (∀ (T V S : Int) w1, mayB ⟨12, 0, 0, 0, 0, 0, 0⟩ T V S = false → Below w.heap.size w w1 → Calls Tryd.prog 14 #[.agg #[.int .u8 12, .int .i64 0, .int .i64 0, .int .i64 0, .int .i64 0, .int .i64 0, .int .u8 0], .int .i64 T, .int .i64 V, .int .i64 S] w1 fun r w' => r = .returned (.bool false) ∧ Below w1.heap.size w1 w') := fun T V S w1 hb h => HM.out ⟨12, 0, 0, 0, 0, 0, 0⟩ false T V S w1 (ev_okc _ (by kernel_rfl)) hb h
  have HP : Hid (∀ (t : ByteArray) w1, t.size ≤ 100 → parseF t.data.toList = (ev0, 4) → Below w.heap.size w w1 → Calls Tryd.prog 20 #[.string t] w1 fun r w' => r = .returned (.tuple #[.agg #[.int .u8 0, .int .i64 0, .int .i64 0, .int .i64 0, .int .i64 0, .int .i64 0, .int .u8 0], .int .i64 4]) ∧ Below w1.heap.size w1 w') := fun t w1 ht hp h => parse_refused t (by omega) hp w1 (he.below h)
  have HL : Hid (∀ w1, Below w.heap.size w w1 → Calls Tryd.prog 20 #[.string ⟨#[53, 32, 115, 116, 111, 114, 101, 32, 51, 49, 32, 45, 57, 50, 50, 51, 51, 55, 50, 48, 51, 54, 56, 53, 52, 55, 55, 53, 56, 48, 56]⟩] w1 fun r w' => r = .returned (.tuple #[.agg #[.int .u8 8, .int .i64 5, .int .i64 0, .int .i64 31, .int .i64 0, .int .i64 (-9223372036854775808), .int .u8 0], .int .i64 0]) ∧ Below w1.heap.size w1 w') := fun w1 h => by
    have h1 := parse_any ⟨#[53, 32, 115, 116, 111, 114, 101, 32, 51, 49, 32, 45, 57, 50, 50, 51, 51, 55, 50, 48, 51, 54, 56, 53, 52, 55, 55, 53, 56, 48, 56]⟩ (by decide) w1 (he.below h)
    unfold parseR at h1
    rw [show parseF (⟨#[53, 32, 115, 116, 111, 114, 101, 32, 51, 49, 32, 45, 57, 50, 50, 51, 51, 55, 50, 48, 51, 54, 56, 53, 52, 55, 55, 53, 56, 48, 56]⟩ : ByteArray).data.toList = _ from nparse_least] at h1
    exact h1
  clear he
  go_enter Tryd.func5, Tryd.ntmps5
  go_wp2_with fail
  go_loop [1] (fun t => ∃ k : Nat, 1 ≤ k ∧ k ≤ 14 ∧ t = .int .u8 k) (fun t => 14 - (intOf t).toNat)
  case atStart => exact ⟨1, by omega, by omega, rfl⟩
  case round =>
    obtain ⟨k, h1, h2, rfl⟩ := hrel
    by_cases hlt : k ≤ 13
    · have i1 : (k : Int) ≤ 13 := by omega
      have i2 : (1 : Int) ≤ (k : Int) := by omega
      have C1 := Lib.hid (HN.out k (by omega))
      have C2 := Lib.hid (HK.out k h1 hlt)
      obtain ⟨s, hs⟩ : ∃ s, s = bsW (nmL k) := ⟨_, rfl⟩
      rw [← hs] at C1 C2
      clear hs
      go_wp2_with fail
      refine C1.out.mono ?_
      rintro _ w1 ⟨rfl, rfl⟩
      go_wp2_with fail
      refine C2.out.mono ?_
      rintro _ w1 ⟨rfl, rfl⟩
      go_wp2_with fail
      go_round
      case rel => exact ⟨k + 1, by omega, by omega, by go_num⟩
      case measure => simp [intOf]; omega
    · obtain rfl : k = 14 := by omega
      go_wp2_with fail
      refine HK0.out.mono ?_
      rintro _ w1 ⟨rfl, rfl⟩
      go_wp2_with fail
      refine HN0.out.mono ?_
      rintro _ w1 ⟨rfl, rfl⟩
      go_wp2_with fail
      refine HN14.out.mono ?_
      rintro _ w1 ⟨rfl, rfl⟩
      clear HN HK HK0 HN0 HN14
      go_wp2_with fail
      refine n_lit33 exE _ rfl (by decide) (by decide) (by rw [Array.toList_map]; rfl) ?_
      intro cur hcur
      have hr : (w.alloc (.cells cur 38)).heap[w.heap.size]? = some (.cells cur 38 (0, 0)) := heap_alloc_new w _
      obtain ⟨W1, hW1⟩ : ∃ W1, W1 = w.alloc (.cells cur 38) := ⟨_, rfl⟩
      obtain ⟨gs, hgs⟩ : ∃ gs, gs = w.heap.size := ⟨_, rfl⟩
      have hb1 : Below w.heap.size w W1 := by rw [hW1]; exact (Below.refl _ _).alloc (Nat.le_refl _) _
      rw [← hW1, ← hgs] at hr
      rw [← hW1, ← hgs]
      have HR := Lib.hid hr
      have HB1 := Lib.hid hb1
      have HX : Hid (∀ k, k < 33 → ∃ (e : Ev) (m : Bool), mayB e 3 4 2 = m ∧ EvOk e ∧ ∀ i, i < 8 → cur[k * 8 + i]? = (exV (e, m)).cells[i]?) := fun k hk => by
        obtain ⟨e, m, h1, h2, h3⟩ := exRow k hk
        exact ⟨e, m, h2, h3, fun i hi => hcur k i _ h1 hi⟩
      clear hr hb1 hW1 hgs hcur
      rw [show exE.length = 33 from rfl]
      go_wp2_with fail
      go_loopw [113] (fun i wr => ∃ k : Nat, k ≤ 33 ∧ i = .int .i64 k ∧ Hid (Below W1.heap.size W1 wr)) (fun i _ => 33 - (intOf i).toNat)
      case atStart => exact ⟨0, by omega, rfl, Below.refl _ _⟩
      case round =>
        obtain ⟨k, hk, rfl, hB⟩ := hrel
        by_cases hlt : k < 33
        · obtain ⟨e, m, hm, ok, hc⟩ := HX.out k hlt
          obtain ⟨kd, th, tx, pl, v, x, why⟩ := e
          have hrow := row_stays HR.out hB.out
          have x0 : wr.cell? ⟨gs, k * 8, none⟩ = some (.int .u8 kd) := (cell_of_row wr gs (k * 8 + 0) _ _ _ hrow).trans (hc 0 (by omega))
          have x1 : wr.cell? ⟨gs, k * 8 + 1, none⟩ = some (.int .i64 th) := (cell_of_row wr gs (k * 8 + 1) _ _ _ hrow).trans (hc 1 (by omega))
          have x2 : wr.cell? ⟨gs, k * 8 + 2, none⟩ = some (.int .i64 tx) := (cell_of_row wr gs (k * 8 + 2) _ _ _ hrow).trans (hc 2 (by omega))
          have x3 : wr.cell? ⟨gs, k * 8 + 3, none⟩ = some (.int .i64 pl) := (cell_of_row wr gs (k * 8 + 3) _ _ _ hrow).trans (hc 3 (by omega))
          have x4 : wr.cell? ⟨gs, k * 8 + 4, none⟩ = some (.int .i64 v) := (cell_of_row wr gs (k * 8 + 4) _ _ _ hrow).trans (hc 4 (by omega))
          have x5 : wr.cell? ⟨gs, k * 8 + 5, none⟩ = some (.int .i64 x) := (cell_of_row wr gs (k * 8 + 5) _ _ _ hrow).trans (hc 5 (by omega))
          have x6 : wr.cell? ⟨gs, k * 8 + 6, none⟩ = some (.int .u8 why) := (cell_of_row wr gs (k * 8 + 6) _ _ _ hrow).trans (hc 6 (by omega))
          have x7 : wr.cell? ⟨gs, k * 8 + 7, none⟩ = some (.bool m) := (cell_of_row wr gs (k * 8 + 7) _ _ _ hrow).trans (hc 7 (by omega))
          have HMM := Lib.hid (And.intro hm ok)
          have i1 : (k : Int) < 33 := by omega
          have i2 : (0 : Int) ≤ (k : Int) := by omega
          clear hrow hc hm ok
          go_wp2_with fail
          obtain ⟨W2, hW2⟩ : ∃ W2, W2 = wr.alloc (.cells #[.int .u8 kd, .int .i64 th, .int .i64 tx, .int .i64 pl, .int .i64 v, .int .i64 x, .int .u8 why, .bool m] 38) := ⟨_, rfl⟩
          obtain ⟨gx, hgx⟩ : ∃ gx, gx = wr.heap.size := ⟨_, rfl⟩
          have hr2 : W2.heap[gx]? = some (.cells #[.int .u8 kd, .int .i64 th, .int .i64 tx, .int .i64 pl, .int .i64 v, .int .i64 x, .int .u8 why, .bool m] 38 (0, 0)) := by rw [hW2, hgx]; exact heap_alloc_new wr _
          have B2 : Hid (Below W1.heap.size W1 W2) := by rw [hW2]; exact hB.out.alloc hB.out.size _
          rw [← hW2, ← hgx]
          clear hW2 hgx x0 x1 x2 x3 x4 x5 x6 x7
          refine regN13 rfl _ (by simp) W2 gx kd th tx pl v x why m (fun wx h => row_stays hr2 h) (fun wx h => HM.out ⟨kd, th, tx, pl, v, x, why⟩ m 3 4 2 wx HMM.out.2 HMM.out.1 (HB1.out.trans ((B2.out.trans (h.mono B2.out.size)).mono HB1.out.size))) rfl ?_
          intro us w5 hu b5 h5
          obtain ⟨z0, z1, z2, z3, z4, z5, rfl⟩ : ∃ z0 z1 z2 z3 z4 z5 : Value, us = [z0, z1, z2, z3, z4, z5] := by
            obtain ⟨z0, r0, rfl, hl0⟩ := cons_ofW hu
            obtain ⟨z1, r1, rfl, hl1⟩ := cons_ofW hl0
            obtain ⟨z2, r2, rfl, hl2⟩ := cons_ofW hl1
            obtain ⟨z3, r3, rfl, hl3⟩ := cons_ofW hl2
            obtain ⟨z4, r4, rfl, hl4⟩ := cons_ofW hl3
            obtain ⟨z5, r5, rfl, hl5⟩ := cons_ofW hl4
            obtain rfl := List.length_eq_zero_iff.1 hl5
            exact ⟨z0, z1, z2, z3, z4, z5, rfl⟩
          obtain rfl : z5 = .bool false := h5
          have B5 : Hid (Below W1.heap.size W1 w5) := B2.out.trans (b5.mono B2.out.size)
          clear hu b5 hr2 HMM
          simp only [regN13_ds, putAll, List.setIfInBounds_toArray, List.set_cons_succ, List.set_cons_zero]
          go_wp2_with fail
          go_roundw
          case rel => exact ⟨k + 1, by omega, by go_num, B5⟩
          case measure => simp [intOf]; omega
        · obtain rfl : k = 33 := by omega
          clear HX HR HM
          go_wp2_with fail
          obtain ⟨W3, hW3⟩ : ∃ W3, W3 = (wr.alloc (.cells #[.int .u8 12, .int .i64 0, .int .i64 0, .int .i64 0, .int .i64 0, .int .i64 0, .int .u8 0] 23)).alloc (.cells rowS 9) := ⟨_, rfl⟩
          obtain ⟨gw, hgw⟩ : ∃ g, g = wr.heap.size := ⟨_, rfl⟩
          obtain ⟨g3, hg3⟩ : ∃ g, g = wr.heap.size + 1 := ⟨_, rfl⟩
          have hr3 : W3.heap[g3]? = some (.cells rowS 9 (0, 0)) := by rw [hW3, hg3]; exact heap_alloc2_new wr _ _
          have hrw : W3.heap[gw]? = some (.cells #[.int .u8 12, .int .i64 0, .int .i64 0, .int .i64 0, .int .i64 0, .int .i64 0, .int .u8 0] 23 (0, 0)) := by rw [hW3, hgw]; exact (heap_alloc_old _ _ (by simp)).trans (heap_alloc_new wr _)
          have hb3 : Below w.heap.size w W3 := by
            rw [hW3]
            have q := HB1.out.trans (hB.out.mono HB1.out.size)
            exact (q.alloc q.size _).alloc (by have := q.size; simp; omega) _
          have HR3 := Lib.hid hr3
          have HRW := Lib.hid hrw
          have HB3 := Lib.hid hb3
          unfold rowS at hW3
          rw [← hW3, ← hg3, ← hgw]
          clear hW3 hgw hg3 hr3 hrw hb3 hB HB1
          go_loopw [127] (fun i wq => ∃ k : Nat, k ≤ 17 ∧ i = .int .i64 k ∧ Hid (Below W3.heap.size W3 wq)) (fun i _ => 17 - (intOf i).toNat)
          case atStart => exact ⟨0, by omega, rfl, Below.refl _ _⟩
          case round =>
            obtain ⟨k, hk, rfl, hB⟩ := hrel
            by_cases hlt : k < 17
            · obtain ⟨t, ht, hp, hc⟩ := exText k hlt
              have x0 := (cell_of_row _ g3 k _ _ _ (row_stays HR3.out hB.out)).trans hc
              have HT := Lib.hid (And.intro ht hp)
              have i1 : (k : Int) < 17 := by omega
              have i2 : (0 : Int) ≤ (k : Int) := by omega
              clear ht hp hc
              go_wp2_with fail
              refine (HP.out t _ HT.out.1 HT.out.2 (HB3.out.trans (hB.out.mono HB3.out.size))).mono ?_
              rintro _ w5 ⟨rfl, b5⟩
              have B5 : Hid (Below W3.heap.size W3 w5) := hB.out.trans (b5.mono hB.out.size)
              have B6 : Hid (Below W3.heap.size W3 (w5.alloc (.cells #[.int .u8 0, .int .i64 0, .int .i64 0, .int .i64 0, .int .i64 0, .int .i64 0, .int .u8 0] 23))) := B5.out.alloc B5.out.size _
              clear b5 x0 HT
              go_wp2_with fail
              refine ⟨?_, ?measure⟩
              refine ⟨_, _, _, _, _, _, _, _, _, _, _, _, _, _, _, _, ?rel, rfl⟩
              case rel => exact ⟨k + 1, by omega, by go_num, B6⟩
              case measure => simp [intOf]; omega
            · obtain rfl : k = 17 := by omega
              clear HR3 HP
              go_wp2_with fail
              refine (HL.out _ (HB3.out.trans (hB.out.mono HB3.out.size))).mono ?_
              rintro _ w5 ⟨rfl, b5⟩
              have B5 : Hid (Below W3.heap.size W3 w5) := hB.out.trans (b5.mono hB.out.size)
              obtain ⟨y0, y1, y2, y3, y4, y5, y6⟩ := evat (row_stays HRW.out B5.out)
              have l5 : gw < w5.heap.size := there_blockW y0
              have l6 : gw < w5.heap.size + 1 := by omega
              clear b5 HL hB
              go_wp2_with fail
              obtain ⟨W6, hW6⟩ : ∃ W6, W6 = w5.alloc (.cells #[.int .u8 8, .int .i64 5, .int .i64 0, .int .i64 31, .int .i64 0, .int .i64 (-9223372036854775808), .int .u8 0] 23) := ⟨_, rfl⟩
              obtain ⟨gl, hgl⟩ : ∃ g, g = w5.heap.size := ⟨_, rfl⟩
              have hrl : W6.heap[gl]? = some (.cells #[.int .u8 8, .int .i64 5, .int .i64 0, .int .i64 31, .int .i64 0, .int .i64 (-9223372036854775808), .int .u8 0] 23 (0, 0)) := by rw [hW6, hgl]; exact heap_alloc_new w5 _
              have B6 : Hid (Below w.heap.size w W6) := by rw [hW6]; have q := HB3.out.trans (B5.out.mono HB3.out.size); exact q.alloc q.size _
              have hrw6 : W6.heap[gw]? = some (.cells #[.int .u8 12, .int .i64 0, .int .i64 0, .int .i64 0, .int .i64 0, .int .i64 0, .int .u8 0] 23 (0, 0)) := row_stays HRW.out (by rw [hW6]; exact B5.out.alloc B5.out.size _)
              have HRL := Lib.hid hrl
              have HRV := Lib.hid hrw6
              rw [← hW6, ← hgl]
              clear hW6 hgl hrl hrw6 y0 y1 y2 y3 y4 y5 y6 l5 l6 HRW B5 HB3
              have C0 : Hid (Below W6.heap.size W6 W6) := Below.refl _ _
              refine (HMW.out 0 1 1 W6 (by kernel_rfl) (B6.out.trans (C0.out.mono B6.out.size))).mono ?_
              rintro _ wm0 ⟨rfl, b8⟩
              have C1 : Hid (Below W6.heap.size W6 wm0) := C0.out.trans (b8.mono C0.out.size)
              clear b8
              obtain ⟨y0, y1, y2, y3, y4, y5, y6⟩ := evat (row_stays HRV.out C1.out)
              obtain ⟨v0, v1, v2, v3, v4, v5, v6⟩ := evat (row_stays HRL.out C1.out)
              go_wp2_with fail
              clear y0 y1 y2 y3 y4 y5 y6 v0 v1 v2 v3 v4 v5 v6
              refine (HMW.out 7 1 1 wm0 (by kernel_rfl) (B6.out.trans (C1.out.mono B6.out.size))).mono ?_
              rintro _ wm1 ⟨rfl, b8⟩
              have C2 : Hid (Below W6.heap.size W6 wm1) := C1.out.trans (b8.mono C1.out.size)
              clear b8
              obtain ⟨y0, y1, y2, y3, y4, y5, y6⟩ := evat (row_stays HRV.out C2.out)
              obtain ⟨v0, v1, v2, v3, v4, v5, v6⟩ := evat (row_stays HRL.out C2.out)
              go_wp2_with fail
              clear y0 y1 y2 y3 y4 y5 y6 v0 v1 v2 v3 v4 v5 v6
              refine (HMW.out 1 33 1 wm1 (by kernel_rfl) (B6.out.trans (C2.out.mono B6.out.size))).mono ?_
              rintro _ wm2 ⟨rfl, b8⟩
              have C3 : Hid (Below W6.heap.size W6 wm2) := C2.out.trans (b8.mono C2.out.size)
              clear b8
              obtain ⟨y0, y1, y2, y3, y4, y5, y6⟩ := evat (row_stays HRV.out C3.out)
              obtain ⟨v0, v1, v2, v3, v4, v5, v6⟩ := evat (row_stays HRL.out C3.out)
              go_wp2_with fail
              clear y0 y1 y2 y3 y4 y5 y6 v0 v1 v2 v3 v4 v5 v6
              refine (HMW.out 1 1 2 wm2 (by kernel_rfl) (B6.out.trans (C3.out.mono B6.out.size))).mono ?_
              rintro _ wm3 ⟨rfl, b8⟩
              have C4 : Hid (Below W6.heap.size W6 wm3) := C3.out.trans (b8.mono C3.out.size)
              clear b8
              obtain ⟨y0, y1, y2, y3, y4, y5, y6⟩ := evat (row_stays HRV.out C4.out)
              obtain ⟨v0, v1, v2, v3, v4, v5, v6⟩ := evat (row_stays HRL.out C4.out)
              go_wp2_with fail
              clear y0 y1 y2 y3 y4 y5 y6 v0 v1 v2 v3 v4 v5 v6
              refine (HMW.out 1 0 0 wm3 (by kernel_rfl) (B6.out.trans (C4.out.mono B6.out.size))).mono ?_
              rintro _ wm4 ⟨rfl, b8⟩
              have C5 : Hid (Below W6.heap.size W6 wm4) := C4.out.trans (b8.mono C4.out.size)
              clear b8
              obtain ⟨y0, y1, y2, y3, y4, y5, y6⟩ := evat (row_stays HRV.out C5.out)
              obtain ⟨v0, v1, v2, v3, v4, v5, v6⟩ := evat (row_stays HRL.out C5.out)
              go_wp2_with fail
              clear y0 y1 y2 y3 y4 y5 y6 v0 v1 v2 v3 v4 v5 v6
              refine (HA.out wm4 (B6.out.trans (C5.out.mono B6.out.size))).mono ?_
              rintro _ w9 ⟨rfl, b9⟩
              have B9 : Hid (Below w.heap.size w w9) := B6.out.trans ((C5.out.trans (b9.mono C5.out.size)).mono B6.out.size)
              clear b9
              go_wp2_with fail
              go_ret
              exact ⟨rfl, B9.out⟩
set_option maxRecDepth 100000 in
theorem EventNames_lifted (os : Os) (started : os.Started) (H : Type) (enc : TypeId × Value → H) :
    ReturnsInHanded {} Tryd.checked os 5 .any (fun w args => (Rows.eventNamesSpec.pre enc Tryd.prog Tryd.f5 [] false w args ∧ laidMetH Tryd.prog [("math/bits.deBruijn32tab", Rows.laid_math_bits_deBruijn32tab), ("math/bits.deBruijn64tab", Rows.laid_math_bits_deBruijn64tab), ("internal/strconv.uint64pow10", Rows.laid_internal_strconv_uint64pow10), ("strconv.ErrRange", Rows.laid_strconv_ErrRange), ("strconv.ErrSyntax", Rows.laid_strconv_ErrSyntax), ("seesaw/event.names", Rows.laid_seesaw_event_names)] w) ∧ sizedMet enc Tryd.prog Tryd.f5 (OpenSpec.ofChange Rows.eventNamesSpec) false w args)
      (Rows.eventNamesSpec.post enc Tryd.prog Tryd.f5 false true false false) := by
  refine returnsInHanded_of_change_and (C := Tryd.checked) (X := fun w _ => laidMetH Tryd.prog [("math/bits.deBruijn32tab", Rows.laid_math_bits_deBruijn32tab), ("math/bits.deBruijn64tab", Rows.laid_math_bits_deBruijn64tab), ("internal/strconv.uint64pow10", Rows.laid_internal_strconv_uint64pow10), ("strconv.ErrRange", Rows.laid_strconv_ErrRange), ("strconv.ErrSyntax", Rows.laid_strconv_ErrSyntax), ("seesaw/event.names", Rows.laid_seesaw_event_names)] w) (fun _ _ _ hh h => h.of_heap hh) lift_own started (by kernel_rfl) Tryd.func5
    (ChangeSpec.witness_shaped (enc := enc) (C := Tryd.checked) (os := os) (X := fun w _ => laidMetH Tryd.prog [("math/bits.deBruijn32tab", Rows.laid_math_bits_deBruijn32tab), ("math/bits.deBruijn64tab", Rows.laid_math_bits_deBruijn64tab), ("internal/strconv.uint64pow10", Rows.laid_internal_strconv_uint64pow10), ("strconv.ErrRange", Rows.laid_strconv_ErrRange), ("strconv.ErrSyntax", Rows.laid_strconv_ErrSyntax), ("seesaw/event.names", Rows.laid_seesaw_event_names)] w) false (World.doorLaid Tryd.prog 400 os) #[] 8 rfl (World.shaped_of_RefB (by kernel_rfl) (by kernel_rfl)) (by kernel_rfl) (by kernel_rfl) (by kernel_rfl) (door_metE os _)) ?_
  intro W base args ds gs before hval0 hW _ _ hL _
  have hval : ∀ (j : Nat) t v, Tryd.f5.params[j]? = some t → args[j]? = some v → Value.okWide Tryd.prog W .any base t v := hval0
  have hW' := hW
  obtain ⟨p, q, hA0, hV, rfl, hfz, hnd⟩ := hW
  have hA : DataW.TrodAll enc Tryd.prog W 0 (fun _ => true) true Tryd.f5.params.toList args.toList ds p := hA0
  rw [Tryd.params5] at hA hval
  obtain ⟨hargs, rfl, rfl⟩ := trodAll_nil hA
  obtain rfl : args = #[] := by cases args; simp_all
  obtain ⟨rfl, rfl⟩ := trodVars_none hV
  clear hA0 hval0
  simp only [List.append_nil] at hW'
  refine (EventNames_walk  W (ek_of_laidE hL)).mono fun e W' ⟨he, hg⟩ => ?_
  subst he
  exact ⟨_, rfl, lift_post (pv := []) hW' (fun _ _ _ => (trodAll_cons_mk (shut_bool Tryd.underlying4 _) trodAll_mk0)) (fun sp hsp => trodAll_mk0) (fun _ _ => rfl) (by simp)
    hg (ok_one (by kernel_rfl) rfl (okWide_bool_mk Tryd.underlying4 _))⟩
/-- THE STATEMENT of EventNames: for every input the call returns true, and each argument reads behind it as before. -/
theorem EventNames_holds : Rows.EventNamesSaid :=
  OpenClaim.holds_of_wide 5 Tryd.f5 rfl rfl rfl rfl rfl rfl rfl ⟨rfl, rfl, rfl, rfl, rfl⟩ rfl rfl rfl rfl rfl (by kernel_rfl) Tryd.func5 (by kernel_rfl)
    (of_decide_eq_true (by kernel_rfl)) (by unfold Func.isWrapper; first | (rw [if_pos (by decide +kernel)]; kernel_rfl) | (rw [if_neg (by decide +kernel)]; exact ⟨rfl, rfl⟩))
    (fun os started H enc _ => EventNames_lifted os started H enc)
/-- THE TIED CARD of EventNames. -/
theorem EventNamesCard_holds : Rows.EventNamesCardSaid :=
  Claim7.holds_tied_plain_at .later [] [.data, .data, .data, .sentinel, .sentinel, .data] true Rows.eventNamesCard.stood.harness true
    EventNames_holds (fun _ h => by cases h) (by kernel_rfl) (fun _ h => by cases h) eventNames_row_tie rfl ⟨rfl, rfl⟩ (by kernel_rfl) rfl
    (fun f fn hf hfn => by
      obtain rfl : f = 5 := Option.some.inj ((show Tryd.prog.funcNamed "seesaw/seesawlaw12.EventNames" = some 5 by kernel_rfl).symm.trans hf) |>.symm
      obtain rfl : fn = Tryd.f5 := (Option.some.inj (Tryd.func5.symm.trans hfn)).symm
      exact ⟨by kernel_rfl, fun j t ht => by
        rw [Tryd.params5] at ht
        simp at ht⟩)
    (by kernel_rfl)
end Go.Proofs.YtjholjlmlglgnaaDoor
