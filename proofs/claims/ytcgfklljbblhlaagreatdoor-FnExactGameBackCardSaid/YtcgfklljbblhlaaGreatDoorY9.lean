/- SquareOk of the model. SquarePut of the model. Positions as text: values (no program is named). A position as text, by the model: l1Dec of one digit, l3Put. SquarePut of the program and of the model; strconv.Itoa of one digit. SquarePut of the program. strings.Builder at this program: what its methods do to a builder in a block of the call's own. A position as text, by the program: Man.text. A position as text, by the program: PosPut. -/
import Derived.Test.YtcgfklljbblhlaaGreatDoorSq
import Derived.Test.YtcgfklljbblhlaaGreatDoorSa
import Derived.Laws.BytesArg
import Derived.Test.YtcgfklljbblhlaaGreatDoorPk
import Derived.Test.YtcgfklljbblhlaaGreatDoorHi
import Derived.Deep.RegionHeld3
import Derived.Test.YtcgfklljbblhlaaGreatDoorBase
import Derived.Lib.Builder
import Derived.Lib.AppendStr
import Derived.Lib.UnsafeStr
import Derived.Laws.Externs
namespace Go.Proofs.YtcgfklljbblhlaaGreatDoor.Sq
open Go.ChangeShapes Go.WideShapes Go.ChangeAt Go.RowKit Base
set_option linter.unusedVariables false
set_option maxRecDepth 20000

end Go.Proofs.YtcgfklljbblhlaaGreatDoor.Sq

namespace Go.Proofs.YtcgfklljbblhlaaGreatDoor.Sq
open Go.ChangeShapes Go.WideShapes Go.ChangeAt Go.RowKit Base
set_option linter.unusedVariables false
set_option maxRecDepth 20000
def putS (c r : Int) : ByteArray := ⟨#[UInt8.ofNat (97 + c.toNat), UInt8.ofNat (49 + r.toNat)]⟩
theorem conv1 (w : World) (x : Int) : (convert 140 9 (.slice (some ⟨w.heap.size, 0, none⟩) 1 1)).run Tryz.prog (w.alloc (.cells #[.int .u8 x] 5)) = .ok (.string (strOfNums [x])) (w.alloc (.cells #[.int .u8 x] 5)) :=
  run_convert_bytes_arg _ _ _ Tryz.underlying140 Tryz.underlying5 w.heap.size 0 1 1 [x] rfl (fun i hi => by
    obtain rfl : i = 0 := by omega
    simp) _ Tryz.underlying9
theorem conv2 (w : World) (x y : Int) : (convert 140 9 (.slice (some ⟨w.heap.size, 0, none⟩) 2 2)).run Tryz.prog (w.alloc (.cells #[.int .u8 x, .int .u8 y] 5)) = .ok (.string (strOfNums [x, y])) (w.alloc (.cells #[.int .u8 x, .int .u8 y] 5)) :=
  run_convert_bytes_arg _ _ _ Tryz.underlying140 Tryz.underlying5 w.heap.size 0 2 2 [x, y] rfl (fun i hi => by
    rcases (show i = 0 ∨ i = 1 by omega) with rfl | rfl
    · simp
    · simp) _ Tryz.underlying9
theorem conv1d (w : World) (x : Int) : (convert 140 9 (.slice (some ⟨w.heap.size, 0, none⟩) 1 1)).run Tryz.prog (w.alloc (.cells #[.int .u8 x] 5)).drew = .ok (.string (strOfNums [x])) (w.alloc (.cells #[.int .u8 x] 5)).drew :=
  run_convert_bytes_arg _ _ _ Tryz.underlying140 Tryz.underlying5 w.heap.size 0 1 1 [x] rfl (fun i hi => by
    obtain rfl : i = 0 := by omega
    simp) _ Tryz.underlying9
theorem conv2d (w : World) (x y : Int) : (convert 140 9 (.slice (some ⟨w.heap.size, 0, none⟩) 2 2)).run Tryz.prog (w.alloc (.cells #[.int .u8 x, .int .u8 y] 5)).drew = .ok (.string (strOfNums [x, y])) (w.alloc (.cells #[.int .u8 x, .int .u8 y] 5)).drew :=
  run_convert_bytes_arg _ _ _ Tryz.underlying140 Tryz.underlying5 w.heap.size 0 2 2 [x, y] rfl (fun i hi => by
    rcases (show i = 0 ∨ i = 1 by omega) with rfl | rfl
    · simp
    · simp) _ Tryz.underlying9
theorem okB_all {s a : Int} (h : okB s a = true) : (s = 2 ∧ (a = 0 ∨ a = 1 ∨ a = 2 ∨ a = 3)) ∨ (s = 3 ∧ (a = 0 ∨ a = 1 ∨ a = 2 ∨ a = 3 ∨ a = 4 ∨ a = 5 ∨ a = 6 ∨ a = 7 ∨ a = 8)) ∨
    (s = 4 ∧ (a = 0 ∨ a = 1 ∨ a = 2 ∨ a = 3 ∨ a = 4 ∨ a = 5 ∨ a = 6 ∨ a = 7 ∨ a = 8 ∨ a = 9 ∨ a = 10 ∨ a = 11 ∨ a = 12 ∨ a = 13 ∨ a = 14 ∨ a = 15)) := by
  obtain ⟨h1, h2, h3, h4⟩ := okB_yes h
  rcases h1 with rfl | rfl | rfl
  · left; omega
  · right; left; omega
  · right; right; omega
def putV (s a : Int) : ByteArray := if okB s a = true then putS (a % s) (a / s) else ⟨#[]⟩
end Go.Proofs.YtcgfklljbblhlaaGreatDoor.Sq

namespace Go.Proofs.YtcgfklljbblhlaaGreatDoor.Ko
open Go.ChangeShapes Go.WideShapes Go.ChangeAt Go.RowKit Base Sq
set_option linter.unusedVariables false
set_option maxRecDepth 20000

/-- a text by its bytes -/
def txt (l : List UInt8) : ByteArray := ⟨l.toArray⟩
theorem txt_cat (a b : List UInt8) : txt a ++ txt b = txt (a ++ b) := by
  apply ByteArray.ext
  simp [txt, ByteArray.data_append]
theorem txt_size (a : List UInt8) : (txt a).size = a.length := by simp [txt, ByteArray.size]
theorem txt_inj {a b : List UInt8} (h : txt a = txt b) : a = b := by
  have := congrArg (fun x : ByteArray => x.data.toList) h
  simpa [txt] using this
theorem putS_txt (c r : Int) : putS c r = txt [UInt8.ofNat (97 + c.toNat), UInt8.ofNat (49 + r.toNat)] := rfl
/-- the letter of a man -/
def nameN (ks : List Kd) (s : St) : Int := (kOf ks s).name + (if s.dy = 1 then 32 else 0)
def nameU (ks : List Kd) (s : St) : UInt8 := UInt8.ofNat (nameN ks s).toNat
def sqU (side a : Int) : List UInt8 := [UInt8.ofNat (97 + (a % side).toNat), UInt8.ofNat (49 + (a / side).toNat)]
def manU (side : Int) (ks : List Kd) (s : St) : List UInt8 := nameU ks s :: sqU side s.far
/-- the first k men -/
def menU (side : Int) (ks : List Kd) (l : List St) : Nat → List UInt8
  | 0 => []
  | k + 1 => menU side ks l k ++ 32 :: manU side ks (stAt l k)
def digU (t : Int) : UInt8 := UInt8.ofNat (48 + t.toNat)
def posUK (side : Int) (ks : List Kd) (t : Int) (l : List St) (k : Nat) : List UInt8 := digU t :: menU side ks l k
def posU (side : Int) (ks : List Kd) (t : Int) (l : List St) : List UInt8 := posUK side ks t l l.length
def posT (side : Int) (ks : List Kd) (t : Int) (l : List St) : List UInt8 := if posB side ks t l = true then posU side ks t l else []
theorem menU_len (side : Int) (ks : List Kd) (l : List St) : ∀ k, (menU side ks l k).length = 4 * k := by
  intro k
  induction k with
  | zero => rfl
  | succ k ih => simp only [menU, List.length_append, ih, manU, sqU, List.length_cons, List.length_nil]; omega
theorem posUK_len (side : Int) (ks : List Kd) (t : Int) (l : List St) (k : Nat) : (posUK side ks t l k).length = 4 * k + 1 := by
  simp only [posUK, List.length_cons, menU_len]
theorem posUK_next (side : Int) (ks : List Kd) (t : Int) (l : List St) (k : Nat) : posUK side ks t l k ++ 32 :: manU side ks (stAt l k) = posUK side ks t l (k + 1) := rfl
/-- the names of valid rules: great letters that rise -/
theorem rulesOk_names {side : Int} {ks : List Kd} (h : rulesOk side ks = true) : (∀ i, i < ks.length → 65 ≤ (kAt ks i).name ∧ (kAt ks i).name ≤ 90) ∧ ∀ i j, i < j → j < ks.length → (kAt ks i).name < (kAt ks j).name := by
  unfold rulesOk at h
  simp only [Bool.and_eq_true, List.all_eq_true, List.mem_range] at h
  obtain ⟨⟨_, h3⟩, _⟩ := h
  have step : ∀ i, i + 1 < ks.length → (kAt ks i).name < (kAt ks (i + 1)).name := fun i hi => by
    have := h3 (i + 1) hi
    unfold goodK at this
    simp only [Bool.and_eq_true, Bool.or_eq_true, decide_eq_true_eq] at this
    rcases this.2 with h | h
    · omega
    · simpa using h
  refine ⟨fun i hi => ?_, fun i j hij => ?_⟩
  · have := h3 i hi
    unfold goodK kOk kindOk at this
    simp only [Bool.and_eq_true] at this
    have h1 := of_decide_eq_true this.1.1.1
    omega
  · induction j with
    | zero => omega
    | succ j ih =>
      intro hj
      have h1 := step j hj
      by_cases he : i = j
      · subst he; exact h1
      · have := ih (by omega) (by omega); omega
theorem name_bd {side : Int} {ks : List Kd} (h : rulesOk side ks = true) {s : St} (hs : 0 ≤ s.dx ∧ s.dx < ks.length) : 65 ≤ (kOf ks s).name ∧ (kOf ks s).name ≤ 90 := (rulesOk_names h).1 _ (by omega)
end Go.Proofs.YtcgfklljbblhlaaGreatDoor.Ko

namespace Go.Proofs.YtcgfklljbblhlaaGreatDoor.Ko
open Go.ChangeShapes Go.WideShapes Go.ChangeAt Go.RowKit Base Sq
set_option linter.unusedVariables false
set_option maxRecDepth 20000
attribute [local irreducible] wpQuiet

theorem txt_of (t : Int) (h : t = 0 ∨ t = 1) : strOfNums [48 + t] = txt [digU t] := by
  rcases h with rfl | rfl <;> rfl
theorem conv_at (nm : Int) (w : World) (g : Nat) (h : w.cell? ⟨g, 0, none⟩ = some (.int .u8 nm)) : (convert 140 9 (.slice (some ⟨g, 0, none⟩) 1 1)).run Tryz.prog w = .ok (.string (strOfNums [nm])) w :=
  run_convert_bytes_arg _ _ _ Tryz.underlying140 Tryz.underlying5 g 0 1 1 [nm] rfl (fun i hi => by
    obtain rfl : i = 0 := by omega
    simpa using h) _ Tryz.underlying9
theorem str_one (nm : Int) (h0 : 0 ≤ nm) : strOfNums [nm] = txt [UInt8.ofNat nm.toNat] := rfl
theorem mem_okB {side : Int} {a : Int} (hs : side = 2 ∨ side = 3 ∨ side = 4) (h : 0 ≤ a ∧ a < side * side) : okB side a = true := okB_of hs h.1 h.2
/-- what is written of the first k men, and one more -/
theorem put_next {side t : Int} {ks : List Kd} {l : List St} {k : Nat} {nm c r : Int} (hn : nm = nameN ks (stAt l k)) (h0 : 0 ≤ nm) (hc : (stAt l k).far % side = c) (hr : (stAt l k).far / side = r) :
    txt (posUK side ks t l k) ++ txt [32] ++ strOfNums [nm] ++ putS c r = txt (posUK side ks t l (k + 1)) := by
  rw [str_one nm h0, putS_txt, txt_cat, txt_cat, txt_cat, ← posUK_next, ← hc, ← hr, hn]
  simp [manU, nameU, sqU]

end Go.Proofs.YtcgfklljbblhlaaGreatDoor.Ko

namespace Go.Proofs.YtcgfklljbblhlaaGreatDoor.Sq
open Go.ChangeShapes Go.WideShapes Go.ChangeAt Go.RowKit Base
set_option linter.unusedVariables false
set_option maxRecDepth 20000

theorem small_dig (n : Int) (hn : n = 0 ∨ n = 1 ∨ n = 2 ∨ n = 3 ∨ n = 4) (w : World) : Calls Tryz.prog 136 #[.int .i64 n] w fun e w' => e = .returned (.string ⟨#[UInt8.ofNat (48 + n.toNat)]⟩) ∧ w = w' := by
  rcases hn with rfl | rfl | rfl | rfl | rfl
  all_goals
    go_enter Tryz.func136, Tryz.ntmps136
    go_wp2
    go_ret
    exact ⟨by rfl, rfl⟩
theorem fmt_dig (n : Int) (hn : n = 0 ∨ n = 1 ∨ n = 2 ∨ n = 3 ∨ n = 4) (w : World) : Calls Tryz.prog 132 #[.int .i64 n, .int .i64 10] w fun e w' => e = .returned (.string ⟨#[UInt8.ofNat (48 + n.toNat)]⟩) ∧ w = w' := by
  have h := small_dig n hn w
  rcases hn with rfl | rfl | rfl | rfl | rfl
  all_goals
    go_enter Tryz.func132, Tryz.ntmps132
    go_wp2_with fail
    refine h.mono ?_
    rintro e w2 ⟨rfl, rfl⟩
    go_wp2_with fail
    go_ret
    exact ⟨rfl, rfl⟩
theorem itoa_dig (n : Int) (hn : n = 0 ∨ n = 1 ∨ n = 2 ∨ n = 3 ∨ n = 4) (w : World) : Calls Tryz.prog 118 #[.int .i64 n] w fun e w' => e = .returned (.string ⟨#[UInt8.ofNat (48 + n.toNat)]⟩) ∧ w = w' := by
  have h := fmt_dig n hn w
  rcases hn with rfl | rfl | rfl | rfl | rfl
  all_goals
    go_enter Tryz.func118, Tryz.ntmps118
    go_wp2_with fail
    refine h.mono ?_
    rintro e w2 ⟨rfl, rfl⟩
    go_wp2_with fail
    go_ret
    exact ⟨rfl, rfl⟩
theorem sitoa_dig (n : Int) (hn : n = 0 ∨ n = 1 ∨ n = 2 ∨ n = 3 ∨ n = 4) (w : World) : Calls Tryz.prog 103 #[.int .i64 n] w fun e w' => e = .returned (.string ⟨#[UInt8.ofNat (48 + n.toNat)]⟩) ∧ w = w' := by
  have h := itoa_dig n hn w
  rcases hn with rfl | rfl | rfl | rfl | rfl
  all_goals
    go_enter Tryz.func103, Tryz.ntmps103
    go_wp2_with fail
    refine h.mono ?_
    rintro e w2 ⟨rfl, rfl⟩
    go_wp2_with fail
    go_ret
    exact ⟨rfl, rfl⟩
end Go.Proofs.YtcgfklljbblhlaaGreatDoor.Sq

namespace Go.Proofs.YtcgfklljbblhlaaGreatDoor.Sq
open Go.ChangeShapes Go.WideShapes Go.ChangeAt Go.RowKit Base
set_option linter.unusedVariables false
set_option maxRecDepth 20000
set_option maxHeartbeats 8000000 in
theorem squarePut_yes (s a : Int) (w : World) (h : okB s a = true) : Calls Tryz.prog 119 #[.int .i64 s, .int .i64 a] w fun e w' => e = .returned (.string (putS (a % s) (a / s))) ∧ Below w.heap.size w w' := by
  obtain ⟨hs, h0, h15, hlt⟩ := okB_yes h
  obtain ⟨c, r, hc, hr, c0, c3, r0, r3⟩ : ∃ c r, a % s = c ∧ a / s = r ∧ 0 ≤ c ∧ c ≤ 3 ∧ 0 ≤ r ∧ r ≤ 3 := by
    refine ⟨_, _, rfl, rfl, ?_⟩
    rcases hs with rfl | rfl | rfl <;> omega
  have HC := Lib.hid hc
  have HR := Lib.hid hr
  rw [hc, hr]
  clear hc hr
  go_enter Tryz.func119, Tryz.ntmps119
  go_wp2_with (go_at_call 116; refine (sq_ok _ _ _).mono ?_; rw [h]; rintro e w' ⟨rfl, rfl⟩)
  refine (squareAt_any _ _ _ hs h0 h15).mono ?_
  rintro e w2 ⟨rfl, hb2⟩
  rw [HC.out, HR.out]
  clear h0 h15 HC HR hs h hlt
  have hwr : IntKind.i64.wrap (r + 1) = r + 1 := by
    rcases (show r = 0 ∨ r = 1 ∨ r = 2 ∨ r = 3 by omega) with rfl | rfl | rfl | rfl <;> decide
  have hwc : IntKind.u8.wrap c = c := by
    rcases (show c = 0 ∨ c = 1 ∨ c = 2 ∨ c = 3 by omega) with rfl | rfl | rfl | rfl <;> decide
  have hwd : IntKind.u8.wrap (97 + c) = 97 + c := by
    rcases (show c = 0 ∨ c = 1 ∨ c = 2 ∨ c = 3 by omega) with rfl | rfl | rfl | rfl <;> decide
  have cat : (Value.string (strOfNums [97 + c] ++ ⟨#[48 + UInt8.ofNat (r + 1).toNat]⟩)) = .string (putS c r) := by
    rcases (show c = 0 ∨ c = 1 ∨ c = 2 ∨ c = 3 by omega) with rfl | rfl | rfl | rfl <;> rcases (show r = 0 ∨ r = 1 ∨ r = 2 ∨ r = 3 by omega) with rfl | rfl | rfl | rfl <;> first | rfl | decide
  have CAT := Lib.hid cat
  clear cat
  have hsz : (strOfNums [97 + c]).size = 1 := rfl
  have hz := hb2.size
  go_wp2_with fail
  have h1 := fun x => conv1 (w2.alloc (.cells #[.int .i64 s, .int .i64 c, .int .i64 r] 170)) x
  have h2 := fun x => conv1d (w2.alloc (.cells #[.int .i64 s, .int .i64 c, .int .i64 r] 170)) x
  simp only [World.size_alloc] at h1 h2
  go_region_with (go_at_call 103; refine (sitoa_dig _ (by omega) _).mono ?_; rintro e w' ⟨rfl, rfl⟩)
  all_goals
    go_wp2
    go_ret
    refine ⟨congrArg Ending.returned CAT.out, hb2.trans (by repeat (first | exact Below.refl _ _ | assumption | (refine Below.alloc ?_ (by first | omega | (simp; done) | (simp; omega)) _) | (refine Below.setCell ?_ (by first | omega | (simp; done) | (simp; omega)) _) | refine Below.drew ?_))⟩
end Go.Proofs.YtcgfklljbblhlaaGreatDoor.Sq

namespace Go.Proofs.YtcgfklljbblhlaaGreatDoor.Bld
open Go.ChangeShapes Go.WideShapes Go.ChangeAt Go.RowKit Base
set_option linter.unusedVariables false
set_option maxRecDepth 20000

theorem infoB : (Tryz.prog.info? 142).map (·.size) = some 2 := by kernel_rfl
theorem liesB : liesAt Tryz.prog Tryz.prog.depth 142 (2 / Tryz.prog.cellsOf 142) 0 142 1 = true := by kernel_rfl
theorem infoU : (Tryz.prog.info? 5).map (fun i => (i.zero, i.size, i.bytes)) = some (some (.int .u8 0), 1, 1) := by kernel_rfl
theorem cellsU : Tryz.prog.cellsOf 5 = 1 := by kernel_rfl
/-- a builder, fresh or used, that holds these bytes -/
abbrev Is (B b : Nat) (l : List UInt8) (w : World) : Prop := Lib.IsBuilder 142 5 B b (Lib.byteCells l) w
abbrev At (B b : Nat) (l : List UInt8) (w : World) : Prop := Lib.BuilderAt 142 5 B b (.pointer (some ⟨b, 0, none⟩)) (Lib.byteCells l) w
theorem Is.parts {B b : Nat} {l : List UInt8} {w : World} (h : Is B b l w) : ∃ p v, B ≤ b ∧ Blk w b #[p, v] 142 ∧ w.ownsRow B 5 1 v l.length (Lib.byteCells l) ∧ v.ownBlock ≠ some b := by
  rcases h with h | h
  · obtain ⟨hB, v, h1, h2, h3⟩ := h
    rw [Lib.byteCells_length] at h2
    exact ⟨_, v, hB, h1, h2, h3⟩
  · obtain ⟨hB, v, h1, h2, h3⟩ := h
    rw [Lib.byteCells_length] at h2
    exact ⟨_, v, hB, h1, h2, h3⟩
theorem Is.below {B b : Nat} {l : List UInt8} {w w' : World} (h : Is B b l w) (hb : Below w.heap.size w w') : Is B b l w' := by
  have go : ∀ p, Lib.BuilderAt 142 5 B b p (Lib.byteCells l) w → Lib.BuilderAt 142 5 B b p (Lib.byteCells l) w' := fun p ⟨hB, v, h1, h2, h3⟩ => by
    refine ⟨hB, v, (hb.block b (lt_of_block h1)).trans h1, ⟨h2.1, ?_⟩, h3⟩
    rcases h2.2 with h0 | ⟨g, cap, cur, hv, hg0, hg, rest⟩
    · exact .inl h0
    · exact .inr ⟨g, cap, cur, hv, hg0, (hb.block g (lt_of_block hg)).trans hg, rest⟩
  rcases h with h | h
  · exact .inl (go _ h)
  · exact .inr (go _ h)
theorem Is.fresh (w : World) (B : Nat) (hB : B ≤ w.heap.size) : Is B w.heap.size [] (w.alloc (.cells #[.pointer none, .slice none 0 0] 142)) :=
  .inl ⟨hB, .slice none 0 0, Blk.new _ _ _, World.ownsRow_nil _ _ _ _, by simp [Value.ownBlock]⟩

set_option maxHeartbeats 1000000 in
theorem check_used (b : Nat) (v : Value) (w : World) (h : Blk w b #[.pointer (some ⟨b, 0, none⟩), v] 142) :
    Calls Tryz.prog 117 #[.pointer (some ⟨b, 0, none⟩)] w fun e w' => e = .returned (.tuple #[]) ∧ w = w' := by
  obtain ⟨j, hj, _⟩ := Option.map_eq_some_iff.1 infoB
  obtain ⟨⟨a0, a1⟩, _⟩ := h.at2
  have hne := Lib.run_neq_ptr_same (P := Tryz.prog) w (tp := 139) (te := 142) ⟨b, 0, none⟩ Tryz.underlying139 hj
  go_enter Tryz.func117, Tryz.ntmps117
  go_wp2_with fail
  go_end0
  exact ⟨rfl, rfl⟩
set_option maxHeartbeats 1000000 in
theorem check_fresh (b : Nat) (v : Value) (w : World) (h : Blk w b #[.pointer none, v] 142) :
    Calls Tryz.prog 117 #[.pointer (some ⟨b, 0, none⟩)] w fun e w' => e = .returned (.tuple #[]) ∧ w' = w.setCell ⟨b, 0, none⟩ (.pointer (some ⟨b, 0, none⟩)) := by
  obtain ⟨j, hj, hjs⟩ := Option.map_eq_some_iff.1 infoB
  obtain ⟨⟨a0, a1⟩, ⟨f0, f1⟩⟩ := h.at2
  have hsh : w.shape? b = some (142, 2) := by unfold Blk at h; simp [World.shape?, h]
  have h1 := Lib.run_to_unsafe (P := Tryz.prog) w (src := 139) (dst := 175) ⟨b, 0, none⟩ Tryz.underlying139 Tryz.underlying175 hj (by rw [hjs]; decide) hsh (Nat.zero_lt_succ 1)
  have h2 : (callFunc 131 #[.pointer (some ⟨b, 0, none⟩)]).run Tryz.prog w = .ok (.value (.pointer (some ⟨b, 0, none⟩))) w := by
    rw [run_callFunc_extern Tryz.func131 (by kernel_rfl) (by kernel_rfl) (by kernel_rfl) (e := Extern.AbiNoEscape.same) (by kernel_rfl), Lib.run_noEscape]
    rfl
  have h3 := Lib.run_from_unsafe (P := Tryz.prog) w (src := 175) (dst := 139) ⟨b, 0, none⟩ Tryz.underlying175 Tryz.underlying139 hj hsh liesB
  clear hsh
  go_enter Tryz.func117, Tryz.ntmps117
  go_wp2_with fail
  go_end0
  exact ⟨rfl, rfl⟩
theorem check_any (B b : Nat) (l : List UInt8) (w : World) (h : Is B b l w) :
    Calls Tryz.prog 117 #[.pointer (some ⟨b, 0, none⟩)] w fun e w' => e = .returned (.tuple #[]) ∧ At B b l w' ∧ Below B w w' := by
  rcases h with h | h
  · obtain ⟨hB, v, h1, h2, h3⟩ := h
    refine (check_fresh b v w h1).mono ?_
    rintro e w' ⟨rfl, rfl⟩
    exact ⟨rfl, Lib.BuilderAt.used ⟨hB, v, h1, h2, h3⟩ _, (Below.refl B w).setCell (p := ⟨b, 0, none⟩) hB _⟩
  · obtain ⟨hB, v, h1, h2, h3⟩ := h
    refine (check_used b v w h1).mono ?_
    rintro e w' ⟨rfl, rfl⟩
    exact ⟨rfl, ⟨hB, v, h1, h2, h3⟩, Below.refl B _⟩

set_option maxHeartbeats 2000000 in
theorem write_any (B b : Nat) (l : List UInt8) (s : ByteArray) (w : World) (h : Is B b l w) (hlen : l.length + s.size ≤ 140737488355328) (hBw : B ≤ w.heap.size) :
    Calls Tryz.prog 102 #[.pointer (some ⟨b, 0, none⟩), .string s] w fun e w' => e = .returned (.tuple #[.int .i64 s.size, .nilIface]) ∧ At B b (l ++ s.data.toList) w' ∧ Below B w w' := by
  obtain ⟨i0, hi, hz0, hz1, hz2⟩ := info_parts infoU
  go_enter Tryz.func102, Tryz.ntmps102
  go_wp2_with fail
  refine (check_any B b l w h).mono ?_
  rintro e w1 ⟨rfl, ⟨hB, v, hbk, hown, hne⟩, hb1⟩
  have hbk' : Blk w1 b #[.pointer (some ⟨b, 0, none⟩), v] 142 := hbk
  obtain ⟨⟨a0, a1⟩, _⟩ := hbk'.at2
  have hlt := hbk'.lt
  have hown' := hown
  rw [Lib.byteCells_length] at hown'
  have HBK := Lib.hid hbk'
  have HOW := Lib.hid hown'
  have HNE := Lib.hid hne
  have HB1 := Lib.hid hb1
  clear hbk hbk' hown hown' h hne hb1
  go_wp2_with (at_builtin; refine Lib.wpList_append_own_string _ rfl _ _ 140 9 rfl B 5 i0 Tryz.underlying140 Tryz.underlying9 hi hz0 hz1 hz2 _ _ _ rfl HOW.out s rfl (by unfold maxLen; omega) (by omega) (by have := HB1.out.size; omega) ?_; intro v' w2 hown2 hgrow2 hnil2; obtain ⟨ao, n', cap', rfl⟩ : ∃ ao n' cap', v' = .slice ao n' cap' := (by rcases hown2.2 with ⟨hv, _⟩ | ⟨g, cap, cur, hv, _⟩; exact ⟨_, _, _, hv⟩; exact ⟨_, _, _, hv⟩); have hb2 : Blk w2 b #[.pointer (some ⟨b, 0, none⟩), v] 142 := (hgrow2.block b hlt (fun e => HNE.out e.symm)).trans HBK.out; have HB2 := Lib.hid hb2; have HO2 := Lib.hid hown2; have HG2 := Lib.hid hgrow2; obtain ⟨⟨d0, d1⟩, ⟨e0, e1⟩⟩ := hb2.at2; clear hb2 hown2 hgrow2 hnil2)
  go_ret2
  have ho : w2.ownsRow B 5 1 (.slice ao n' cap') (Lib.byteCells (l ++ s.data.toList)).length (Lib.byteCells (l ++ s.data.toList)) := by
    have h1 := HO2.out
    rw [Lib.byteCells_append, ← Lib.strCells_eq, List.length_append, Lib.byteCells_length, Lib.strCells_length]
    exact h1
  refine ⟨rfl, Lib.BuilderAt.put hB HB2.out ho (by decide), ?_⟩
  exact (HB1.out.grown HG2.out (by have := HB1.out.size; omega) (fun k hk => (HOW.out.lt k hk).1)).setCell (p := ⟨b, 1, none⟩) hB _

set_option maxHeartbeats 2000000 in
theorem text_any (B b : Nat) (l : List UInt8) (w : World) (h : Is B b l w) (h0 : l ≠ []) :
    Calls Tryz.prog 105 #[.pointer (some ⟨b, 0, none⟩)] w fun e w' => e = .returned (.string ⟨l.toArray⟩) ∧ Below B w w' := by
  obtain ⟨p, v, hB, hbk, hown, hne⟩ := h.parts
  have hl0 : l.length ≠ 0 := by simpa using h0
  obtain ⟨g, cap, cur, rfl, hbg, hg, hnc, hcm, hcs, htake⟩ : ∃ g cap cur, v = .slice (some ⟨g, 0, none⟩) l.length cap ∧ B ≤ g ∧ w.heap[g]? = some (.cells cur 5 (0, 0)) ∧ l.length ≤ cap ∧ cap ≤ maxLen ∧ cur.size = cap * 1 ∧ cur.toList.take (l.length * 1) = Lib.byteCells l := by
    rcases hown.2 with ⟨_, hz⟩ | ⟨g, cap, cur, hv, r⟩
    · exact absurd hz hl0
    · exact ⟨g, cap, cur, hv, r⟩
  have c1 : w.drew.cell? ⟨b, 1, none⟩ = some (.slice (some ⟨g, 0, none⟩) l.length cap) := hbk.at2.1.2
  have hSD : (Builtin.unsafeSliceData_ #[140] 164 #[.slice (some ⟨g, 0, none⟩) l.length cap]).run Tryz.prog w.drew = .ok (.pointer (some ⟨g, 0, none⟩)) w.drew :=
    Lib.run_unsafeSliceData_row _ _ _ _ _ _ (by omega)
  have hUS : (Builtin.unsafeString_ #[164, 3] 9 #[.pointer (some ⟨g, 0, none⟩), .int .i64 l.length]).run Tryz.prog w.drew = .ok (.string ⟨l.toArray⟩) (w.drew.freeze ⟨g, 0, none⟩ l.length) := by
    refine Lib.run_unsafeString_row w.drew 164 3 9 5 Tryz.underlying164 cellsU g cur.size (by have hg' : w.drew.heap[g]? = some (.cells cur 5 (0, 0)) := hg; simp [World.shape?, hg']) l h0 (by omega) (by unfold maxLen at hcm; omega) ?_
    intro j x hx
    have := hown.cells (g := g) rfl j (.int .u8 x.toNat) (by simp [Lib.byteCells, hx])
    exact this
  clear hown hbk hg htake
  go_enter Tryz.func105, Tryz.ntmps105
  go_wp2_with fail
  go_region
  all_goals
    go_wp2_with fail
    go_ret
    exact ⟨rfl, Lib.below_freeze (Below.drew (Below.refl B w)) (p := ⟨g, 0, none⟩) hbg _⟩
end Go.Proofs.YtcgfklljbblhlaaGreatDoor.Bld

namespace Go.Proofs.YtcgfklljbblhlaaGreatDoor.Ko
open Go.ChangeShapes Go.WideShapes Go.ChangeAt Go.RowKit Base Sq
set_option linter.unusedVariables false
set_option maxRecDepth 20000
attribute [local irreducible] wpQuiet

theorem man_eq {side : Int} {ks : List Kd} {s : St} {nm c r : Int} (hn : nm = nameN ks s) (h0 : 0 ≤ nm) (hc : s.far % side = c) (hr : s.far / side = r) : strOfNums [nm] ++ putS c r = txt (manU side ks s) := by
  rw [str_one nm h0, putS_txt, txt_cat, ← hc, ← hr, hn]
  simp [manU, nameU, sqU]

set_option maxHeartbeats 8000000 in
theorem manText_any (side : Int) (A : Option Addr) (c : Nat) (ks : List Kd) (s : St) (w : World) (hR : IsKinds w w.heap.size A ks) (hok : rulesOk side ks = true) (hx : 0 ≤ s.dx ∧ s.dx < ks.length) (hf : 0 ≤ s.far ∧ s.far < side * side) :
    Calls Tryz.prog 104 #[.agg #[.int .i64 s.dx, .int .i64 s.dy, .int .i64 s.far], .agg #[.int .i64 side, .slice A ks.length c]] w fun e w' => e = .returned (.string (txt (manU side ks s))) ∧ Below w.heap.size w w' := by
  obtain ⟨bk, offk, rfl, hBk, hck⟩ := hR (by omega)
  obtain ⟨S, cc, kc0, _, _, _⟩ := hck s.dx.toNat (by omega)
  obtain ⟨nm, hnm⟩ : ∃ nm, nm = (kAt ks s.dx.toNat).name := ⟨_, rfl⟩
  have hnb : 65 ≤ nm ∧ nm ≤ 90 := by rw [hnm]; exact name_bd hok (s := s) hx
  have HNM := Lib.hid (show nm = (kOf ks s).name from hnm)
  rw [← hnm] at kc0
  have hwr : IntKind.u8.wrap nm = nm := by unfold IntKind.wrap; simp [IntKind.bits, IntKind.signed]; omega
  have hwr2 : IntKind.u8.wrap (nm + 32) = nm + 32 := by unfold IntKind.wrap; simp [IntKind.bits, IntKind.signed]; omega
  obtain ⟨x1, x2⟩ := hx
  have HOB := Lib.hid (mem_okB (a := s.far) (rulesOk_facts hok).1 hf)
  have HME := Lib.hid (fun (x : Int) h0 h1 => man_eq (side := side) (ks := ks) (s := s) (nm := x) h0 h1 rfl rfl)
  have hb0 : Below w.heap.size w ((w.alloc (.cells #[.int .i64 s.dx, .int .i64 s.dy, .int .i64 s.far] 105)).alloc (.cells #[.int .i64 side, .slice (some ⟨bk, offk, none⟩) ks.length c] 40)) := (by repeat (first | exact Below.refl _ _ | assumption | (refine Below.alloc ?_ (by first | omega | (simp; done) | (simp; omega)) _) | (refine Below.setCell ?_ (by first | omega | (simp; done) | (simp; omega)) _) | refine Below.drew ?_))
  have p1 := (Blk.new w #[.int .i64 s.dx, .int .i64 s.dy, .int .i64 s.far] 105).alloc (.cells #[.int .i64 side, .slice (some ⟨bk, offk, none⟩) ks.length c] 40)
  have p2 := Blk.new (w.alloc (.cells #[.int .i64 s.dx, .int .i64 s.dy, .int .i64 s.far] 105)) #[.int .i64 side, .slice (some ⟨bk, offk, none⟩) ks.length c] 40
  simp only [World.size_alloc] at p2
  have kc0 := (hb0.cell (p := ⟨bk, _, none⟩) hBk).trans kc0
  have hz := hb0.size
  clear hck hnm hR hf hok
  by_cases ho : s.dy = 1
  · have hd : (s.dy == 1) = true := by simp [ho]
    have HNX := Lib.hid (HME.out (nm + 32) (by unfold nameN; rw [if_pos ho, HNM.out]) (by omega))
    have ha3 : ∀ c r w', (Op.stringOp .add (strOfNums [nm + 32]) (putS c r)).run Tryz.prog w' = .ok (.string (strOfNums [nm + 32] ++ putS c r)) w' := fun c r w' => run_string_add_sum _ _ _ (by show 1 + 2 ≤ _; omega)
    clear ho hnb
    go_enter Tryz.func104, Tryz.ntmps104
    go_wp2_with fail
    generalize hW0 : (w.alloc _).alloc _ = W0 at *
    clear hW0
    obtain ⟨⟨a0, a1, a2⟩, _⟩ := p1.at3
    obtain ⟨⟨r0, r1⟩, _⟩ := p2.at2
    have z1 := p1.lt
    have z2 := p2.lt
    have HS : Hid (∀ w', Below W0.heap.size W0 w' → (w'.cell? ⟨w.heap.size + 1, 0, none⟩ = some (.int .i64 side) ∧ w'.cell? ⟨w.heap.size, 2, none⟩ = some (.int .i64 s.far))) := Lib.hid (fun w' hb => by
      obtain ⟨⟨_, _, b2⟩, _⟩ := (p1.below hb z1).at3
      obtain ⟨⟨b0, _⟩, _⟩ := (p2.below hb z2).at2
      exact ⟨b0, b2⟩)
    have HBE := Lib.hid hb0
    have hw : Below W0.heap.size W0 W0.drew := (Below.refl _ _).drew
    have hc2 := fun x => conv1d W0 x
    clear p1 p2 hb0
    refine wp_region_held_drew (S := (fun w' => w'.cell? ⟨w.heap.size + 1, 0, none⟩ = some (.int .i64 side) ∧ w'.cell? ⟨w.heap.size, 2, none⟩ = some (.int .i64 s.far))) (by kernel_rfl) ?hrg1S (fun hHeld => ?hrg1g)
    case hrg1S => (try dsimp only); (exact HS.out _ hw)
    refine wpAnyH_take (i := 0) (oi := _) (v := ?hrg2v) rfl (by kernel_rfl) (by kernel_rfl) (by kernel_rfl) (fun _ _ _ h => h) (Or.inl ⟨by rfl, ?hrg2y⟩) (by assumption) ?hrg2r
    case hrg2y => (intro w hSw; (try dsimp only at hSw); go_simp; all_goals (with_reducible rfl))
    (try simp only [Act.put]); (try simp only [List.getElem_toArray]); (try simp only [List.getElem_cons_succ]); (try simp only [List.getElem_cons_zero]); (try simp only [List.setIfInBounds_toArray]); (try simp only [List.set_cons_succ]); (try simp only [List.set_cons_zero])
    refine wpAnyH_take (i := 3) (oi := _) (v := ?hrg3v) rfl (by kernel_rfl) (by kernel_rfl) (by kernel_rfl) (fun _ _ _ h => h) (Or.inl ⟨by rfl, ?hrg3y⟩) (by assumption) ?hrg3r
    case hrg3y => (intro w hSw; (try dsimp only at hSw); go_simp; all_goals (with_reducible rfl))
    (try simp only [Act.put]); (try simp only [List.getElem_toArray]); (try simp only [List.getElem_cons_succ]); (try simp only [List.getElem_cons_zero]); (try simp only [List.setIfInBounds_toArray]); (try simp only [List.set_cons_succ]); (try simp only [List.set_cons_zero])
    refine wpAnyH_take (i := 4) (oi := _) (v := ?hrg4v) rfl (by kernel_rfl) (by kernel_rfl) (by kernel_rfl) (fun _ _ _ h => h) (Or.inl ⟨by rfl, ?hrg4y⟩) (by assumption) ?hrg4r
    case hrg4y => (intro w hSw; (try dsimp only at hSw); go_simp; all_goals (with_reducible rfl))
    (try simp only [Act.put]); (try simp only [List.getElem_toArray]); (try simp only [List.getElem_cons_succ]); (try simp only [List.getElem_cons_zero]); (try simp only [List.setIfInBounds_toArray]); (try simp only [List.set_cons_succ]); (try simp only [List.set_cons_zero])
    refine wpAnyH_take (i := 5) (oi := _) (v := ?hrg5v) rfl (by kernel_rfl) (by kernel_rfl) (by kernel_rfl) (fun _ _ _ h => h) (Or.inl ⟨by rfl, ?hrg5y⟩) (by assumption) ?hrg5r
    case hrg5y => (intro w hSw; (try dsimp only at hSw); go_simp; all_goals (with_reducible rfl))
    (try simp only [Act.put]); (try simp only [List.getElem_toArray]); (try simp only [List.getElem_cons_succ]); (try simp only [List.getElem_cons_zero]); (try simp only [List.setIfInBounds_toArray]); (try simp only [List.set_cons_succ]); (try simp only [List.set_cons_zero])
    refine wpAnyH_take (i := 6) (oi := _) (v := ?hrg6v) rfl (by kernel_rfl) (by kernel_rfl) (by kernel_rfl) (fun _ _ _ h => h) (Or.inl ⟨by rfl, ?hrg6y⟩) (by assumption) ?hrg6r
    case hrg6y => (intro w hSw; (try dsimp only at hSw); go_simp; all_goals (with_reducible rfl))
    (try simp only [Act.put]); (try simp only [List.getElem_toArray]); (try simp only [List.getElem_cons_succ]); (try simp only [List.getElem_cons_zero]); (try simp only [List.setIfInBounds_toArray]); (try simp only [List.set_cons_succ]); (try simp only [List.set_cons_zero])
    refine wpAnyH_ready (rs := [1, 7]) (by kernel_rfl) (by simp) ?_
    refine (AllReadyH.cons (o := _) rfl (fun K hK => ?hrg7_1) (AllReadyH.cons (o := _) rfl (fun K hK => ?hrg7_7) AllReadyH.nil))
    case' hrg7_1 =>
      go_simp
      refine hK.out _ _ ?hrg8S (fun hHeld => ?hrg8g)
      case hrg8S => (try dsimp only); (exact HS.out _ (below_of W0 _).drew)
      clear hK K
      (try simp only [Act.put]); (try simp only [List.getElem_toArray]); (try simp only [List.getElem_cons_succ]); (try simp only [List.getElem_cons_zero]); (try simp only [List.setIfInBounds_toArray]); (try simp only [List.set_cons_succ]); (try simp only [List.set_cons_zero])
      refine wpAnyH_ready (rs := [2, 7]) (by kernel_rfl) (by simp) ?_
      refine (AllReadyH.cons (o := _) rfl (fun K hK => ?hrg9_2) (AllReadyH.cons (o := _) rfl (fun K hK => ?hrg9_7) AllReadyH.nil))
      case' hrg9_2 =>
        go_simp
        refine hK.out _ _ ?hrg10S (fun hHeld => ?hrg10g)
        case hrg10S => (try dsimp only); (exact HS.out _ (below_of W0 _).drew)
        clear hK K
        (try simp only [Act.put]); (try simp only [List.getElem_toArray]); (try simp only [List.getElem_cons_succ]); (try simp only [List.getElem_cons_zero]); (try simp only [List.setIfInBounds_toArray]); (try simp only [List.set_cons_succ]); (try simp only [List.set_cons_zero])
        refine wpAnyH_ready (rs := [7]) (by kernel_rfl) (by simp) ?_
        refine (AllReadyH.cons (o := _) rfl (fun K hK => ?hrg11_7) AllReadyH.nil)
        case' hrg11_7 =>
          go_simp; go_at_call 119; refine (squarePut_yes _ _ _ HOB.out).mono ?_; rintro e w5 ⟨rfl, hb5⟩; have hw5 : Below W0.heap.size W0 w5 := (below_of W0 (.cells #[.int .u8 (nm + 32)] 5)).drew.trans (hb5.mono (by show W0.heap.size ≤ _; simp)); have hc5 := conv_at (nm + 32) w5 W0.heap.size ((Blk.below (Blk.drew (Blk.new W0 #[.int .u8 (nm + 32)] 5)) hb5 (by simp)).cell 0)
          refine hK.out _ _ ?hrg12S (fun hHeld => ?hrg12g)
          case hrg12S => (try dsimp only); (exact HS.out _ hw5)
          clear hK K
          (try simp only [Act.put]); (try simp only [List.getElem_toArray]); (try simp only [List.getElem_cons_succ]); (try simp only [List.getElem_cons_zero]); (try simp only [List.setIfInBounds_toArray]); (try simp only [List.set_cons_succ]); (try simp only [List.set_cons_zero])
          refine wpAnyH_take (i := 8) (oi := _) (v := ?hrg13v) rfl (by kernel_rfl) (by kernel_rfl) (by kernel_rfl) (fun _ _ _ h => h) (Or.inl ⟨by rfl, ?hrg13y⟩) (by assumption) ?hrg13r
          case hrg13y => (intro w hSw; (try dsimp only at hSw); go_simp; all_goals (with_reducible rfl))
          (try simp only [Act.put]); (try simp only [List.getElem_toArray]); (try simp only [List.getElem_cons_succ]); (try simp only [List.getElem_cons_zero]); (try simp only [List.setIfInBounds_toArray]); (try simp only [List.set_cons_succ]); (try simp only [List.set_cons_zero])
          refine wpAnyH_take (i := 9) (oi := _) (v := ?hrg14v) rfl (by kernel_rfl) (by kernel_rfl) (by kernel_rfl) (fun _ _ _ h => h) (Or.inl ⟨by rfl, ?hrg14y⟩) (by assumption) ?hrg14r
          case hrg14y => (intro w hSw; (try dsimp only at hSw); go_simp; all_goals (with_reducible rfl))
          (try simp only [Act.put]); (try simp only [List.getElem_toArray]); (try simp only [List.getElem_cons_succ]); (try simp only [List.getElem_cons_zero]); (try simp only [List.setIfInBounds_toArray]); (try simp only [List.set_cons_succ]); (try simp only [List.set_cons_zero])
          refine wpAnyH_done (by kernel_rfl) ?_ _
      case' hrg9_7 =>
        go_simp; go_at_call 119; refine (squarePut_yes _ _ _ HOB.out).mono ?_; rintro e w5 ⟨rfl, hb5⟩; have hw5 : Below W0.heap.size W0 w5 := (below_of W0 (.cells #[.int .u8 (nm + 32)] 5)).drew.trans (hb5.mono (by show W0.heap.size ≤ _; simp)); have hc5 := conv_at (nm + 32) w5 W0.heap.size ((Blk.below (Blk.drew (Blk.new W0 #[.int .u8 (nm + 32)] 5)) hb5 (by simp)).cell 0)
        refine hK.out _ _ ?hrg15S (fun hHeld => ?hrg15g)
        case hrg15S => (try dsimp only); (exact HS.out _ hw5)
        clear hK K
        (try simp only [Act.put]); (try simp only [List.getElem_toArray]); (try simp only [List.getElem_cons_succ]); (try simp only [List.getElem_cons_zero]); (try simp only [List.setIfInBounds_toArray]); (try simp only [List.set_cons_succ]); (try simp only [List.set_cons_zero])
        refine wpAnyH_ready (rs := [2]) (by kernel_rfl) (by simp) ?_
        refine (AllReadyH.cons (o := _) rfl (fun K hK => ?hrg16_2) AllReadyH.nil)
        case' hrg16_2 =>
          go_simp
          refine hK.out _ _ ?hrg17S (fun hHeld => ?hrg17g)
          case hrg17S => (try dsimp only); (exact HS.out _ hw5)
          clear hK K
          (try simp only [Act.put]); (try simp only [List.getElem_toArray]); (try simp only [List.getElem_cons_succ]); (try simp only [List.getElem_cons_zero]); (try simp only [List.setIfInBounds_toArray]); (try simp only [List.set_cons_succ]); (try simp only [List.set_cons_zero])
          refine wpAnyH_take (i := 8) (oi := _) (v := ?hrg18v) rfl (by kernel_rfl) (by kernel_rfl) (by kernel_rfl) (fun _ _ _ h => h) (Or.inl ⟨by rfl, ?hrg18y⟩) (by assumption) ?hrg18r
          case hrg18y => (intro w hSw; (try dsimp only at hSw); go_simp; all_goals (with_reducible rfl))
          (try simp only [Act.put]); (try simp only [List.getElem_toArray]); (try simp only [List.getElem_cons_succ]); (try simp only [List.getElem_cons_zero]); (try simp only [List.setIfInBounds_toArray]); (try simp only [List.set_cons_succ]); (try simp only [List.set_cons_zero])
          refine wpAnyH_take (i := 9) (oi := _) (v := ?hrg19v) rfl (by kernel_rfl) (by kernel_rfl) (by kernel_rfl) (fun _ _ _ h => h) (Or.inl ⟨by rfl, ?hrg19y⟩) (by assumption) ?hrg19r
          case hrg19y => (intro w hSw; (try dsimp only at hSw); go_simp; all_goals (with_reducible rfl))
          (try simp only [Act.put]); (try simp only [List.getElem_toArray]); (try simp only [List.getElem_cons_succ]); (try simp only [List.getElem_cons_zero]); (try simp only [List.setIfInBounds_toArray]); (try simp only [List.set_cons_succ]); (try simp only [List.set_cons_zero])
          refine wpAnyH_done (by kernel_rfl) ?_ _
    case' hrg7_7 =>
      go_simp; go_at_call 119; refine (squarePut_yes _ _ _ HOB.out).mono ?_; rintro e w5 ⟨rfl, hb5⟩; have hw5 : Below W0.heap.size W0 w5 := hw.trans (hb5.mono (Nat.le_refl _)); have hc3 := (fun x => conv1 w5 x)
      refine hK.out _ _ ?hrg20S (fun hHeld => ?hrg20g)
      case hrg20S => (try dsimp only); (exact HS.out _ hw5)
      clear hK K
      (try simp only [Act.put]); (try simp only [List.getElem_toArray]); (try simp only [List.getElem_cons_succ]); (try simp only [List.getElem_cons_zero]); (try simp only [List.setIfInBounds_toArray]); (try simp only [List.set_cons_succ]); (try simp only [List.set_cons_zero])
      refine wpAnyH_ready (rs := [1]) (by kernel_rfl) (by simp) ?_
      refine (AllReadyH.cons (o := _) rfl (fun K hK => ?hrg21_1) AllReadyH.nil)
      case' hrg21_1 =>
        go_simp
        refine hK.out _ _ ?hrg22S (fun hHeld => ?hrg22g)
        case hrg22S => (try dsimp only); (exact HS.out _ (hw5.alloc hw5.size _))
        clear hK K
        (try simp only [Act.put]); (try simp only [List.getElem_toArray]); (try simp only [List.getElem_cons_succ]); (try simp only [List.getElem_cons_zero]); (try simp only [List.setIfInBounds_toArray]); (try simp only [List.set_cons_succ]); (try simp only [List.set_cons_zero])
        refine wpAnyH_ready (rs := [2]) (by kernel_rfl) (by simp) ?_
        refine (AllReadyH.cons (o := _) rfl (fun K hK => ?hrg23_2) AllReadyH.nil)
        case' hrg23_2 =>
          go_simp
          refine hK.out _ _ ?hrg24S (fun hHeld => ?hrg24g)
          case hrg24S => (try dsimp only); (exact HS.out _ (hw5.alloc hw5.size _))
          clear hK K
          (try simp only [Act.put]); (try simp only [List.getElem_toArray]); (try simp only [List.getElem_cons_succ]); (try simp only [List.getElem_cons_zero]); (try simp only [List.setIfInBounds_toArray]); (try simp only [List.set_cons_succ]); (try simp only [List.set_cons_zero])
          refine wpAnyH_take (i := 8) (oi := _) (v := ?hrg25v) rfl (by kernel_rfl) (by kernel_rfl) (by kernel_rfl) (fun _ _ _ h => h) (Or.inl ⟨by rfl, ?hrg25y⟩) (by assumption) ?hrg25r
          case hrg25y => (intro w hSw; (try dsimp only at hSw); go_simp; all_goals (with_reducible rfl))
          (try simp only [Act.put]); (try simp only [List.getElem_toArray]); (try simp only [List.getElem_cons_succ]); (try simp only [List.getElem_cons_zero]); (try simp only [List.setIfInBounds_toArray]); (try simp only [List.set_cons_succ]); (try simp only [List.set_cons_zero])
          refine wpAnyH_take (i := 9) (oi := _) (v := ?hrg26v) rfl (by kernel_rfl) (by kernel_rfl) (by kernel_rfl) (fun _ _ _ h => h) (Or.inl ⟨by rfl, ?hrg26y⟩) (by assumption) ?hrg26r
          case hrg26y => (intro w hSw; (try dsimp only at hSw); go_simp; all_goals (with_reducible rfl))
          (try simp only [Act.put]); (try simp only [List.getElem_toArray]); (try simp only [List.getElem_cons_succ]); (try simp only [List.getElem_cons_zero]); (try simp only [List.setIfInBounds_toArray]); (try simp only [List.set_cons_succ]); (try simp only [List.set_cons_zero])
          refine wpAnyH_done (by kernel_rfl) ?_ _
    all_goals
      go_wp2_with fail
      go_ret
      exact ⟨congrArg (fun x => Ending.returned (Value.string x)) HNX.out, HBE.out.trans (Below.mono (by first | exact hw5 | exact hw5.alloc hw5.size _) hz)⟩
  · have hd : (s.dy == 1) = false := by simp [ho]
    have HNX := Lib.hid (HME.out nm (by unfold nameN; rw [if_neg ho, HNM.out]; omega) (by omega))
    have ha3 : ∀ c r w', (Op.stringOp .add (strOfNums [nm]) (putS c r)).run Tryz.prog w' = .ok (.string (strOfNums [nm] ++ putS c r)) w' := fun c r w' => run_string_add_sum _ _ _ (by show 1 + 2 ≤ _; omega)
    clear ho hnb
    go_enter Tryz.func104, Tryz.ntmps104
    go_wp2_with fail
    generalize hW0 : (w.alloc _).alloc _ = W0 at *
    clear hW0
    obtain ⟨⟨a0, a1, a2⟩, _⟩ := p1.at3
    obtain ⟨⟨r0, r1⟩, _⟩ := p2.at2
    have z1 := p1.lt
    have z2 := p2.lt
    have HS : Hid (∀ w', Below W0.heap.size W0 w' → (w'.cell? ⟨w.heap.size + 1, 0, none⟩ = some (.int .i64 side) ∧ w'.cell? ⟨w.heap.size, 2, none⟩ = some (.int .i64 s.far))) := Lib.hid (fun w' hb => by
      obtain ⟨⟨_, _, b2⟩, _⟩ := (p1.below hb z1).at3
      obtain ⟨⟨b0, _⟩, _⟩ := (p2.below hb z2).at2
      exact ⟨b0, b2⟩)
    have HBE := Lib.hid hb0
    have hw : Below W0.heap.size W0 W0.drew := (Below.refl _ _).drew
    have hc2 := fun x => conv1d W0 x
    clear p1 p2 hb0
    refine wp_region_held_drew (S := (fun w' => w'.cell? ⟨w.heap.size + 1, 0, none⟩ = some (.int .i64 side) ∧ w'.cell? ⟨w.heap.size, 2, none⟩ = some (.int .i64 s.far))) (by kernel_rfl) ?hrg27S (fun hHeld => ?hrg27g)
    case hrg27S => (try dsimp only); (exact HS.out _ hw)
    refine wpAnyH_take (i := 0) (oi := _) (v := ?hrg28v) rfl (by kernel_rfl) (by kernel_rfl) (by kernel_rfl) (fun _ _ _ h => h) (Or.inl ⟨by rfl, ?hrg28y⟩) (by assumption) ?hrg28r
    case hrg28y => (intro w hSw; (try dsimp only at hSw); go_simp; all_goals (with_reducible rfl))
    (try simp only [Act.put]); (try simp only [List.getElem_toArray]); (try simp only [List.getElem_cons_succ]); (try simp only [List.getElem_cons_zero]); (try simp only [List.setIfInBounds_toArray]); (try simp only [List.set_cons_succ]); (try simp only [List.set_cons_zero])
    refine wpAnyH_take (i := 3) (oi := _) (v := ?hrg29v) rfl (by kernel_rfl) (by kernel_rfl) (by kernel_rfl) (fun _ _ _ h => h) (Or.inl ⟨by rfl, ?hrg29y⟩) (by assumption) ?hrg29r
    case hrg29y => (intro w hSw; (try dsimp only at hSw); go_simp; all_goals (with_reducible rfl))
    (try simp only [Act.put]); (try simp only [List.getElem_toArray]); (try simp only [List.getElem_cons_succ]); (try simp only [List.getElem_cons_zero]); (try simp only [List.setIfInBounds_toArray]); (try simp only [List.set_cons_succ]); (try simp only [List.set_cons_zero])
    refine wpAnyH_take (i := 4) (oi := _) (v := ?hrg30v) rfl (by kernel_rfl) (by kernel_rfl) (by kernel_rfl) (fun _ _ _ h => h) (Or.inl ⟨by rfl, ?hrg30y⟩) (by assumption) ?hrg30r
    case hrg30y => (intro w hSw; (try dsimp only at hSw); go_simp; all_goals (with_reducible rfl))
    (try simp only [Act.put]); (try simp only [List.getElem_toArray]); (try simp only [List.getElem_cons_succ]); (try simp only [List.getElem_cons_zero]); (try simp only [List.setIfInBounds_toArray]); (try simp only [List.set_cons_succ]); (try simp only [List.set_cons_zero])
    refine wpAnyH_take (i := 5) (oi := _) (v := ?hrg31v) rfl (by kernel_rfl) (by kernel_rfl) (by kernel_rfl) (fun _ _ _ h => h) (Or.inl ⟨by rfl, ?hrg31y⟩) (by assumption) ?hrg31r
    case hrg31y => (intro w hSw; (try dsimp only at hSw); go_simp; all_goals (with_reducible rfl))
    (try simp only [Act.put]); (try simp only [List.getElem_toArray]); (try simp only [List.getElem_cons_succ]); (try simp only [List.getElem_cons_zero]); (try simp only [List.setIfInBounds_toArray]); (try simp only [List.set_cons_succ]); (try simp only [List.set_cons_zero])
    refine wpAnyH_take (i := 6) (oi := _) (v := ?hrg32v) rfl (by kernel_rfl) (by kernel_rfl) (by kernel_rfl) (fun _ _ _ h => h) (Or.inl ⟨by rfl, ?hrg32y⟩) (by assumption) ?hrg32r
    case hrg32y => (intro w hSw; (try dsimp only at hSw); go_simp; all_goals (with_reducible rfl))
    (try simp only [Act.put]); (try simp only [List.getElem_toArray]); (try simp only [List.getElem_cons_succ]); (try simp only [List.getElem_cons_zero]); (try simp only [List.setIfInBounds_toArray]); (try simp only [List.set_cons_succ]); (try simp only [List.set_cons_zero])
    refine wpAnyH_ready (rs := [1, 7]) (by kernel_rfl) (by simp) ?_
    refine (AllReadyH.cons (o := _) rfl (fun K hK => ?hrg33_1) (AllReadyH.cons (o := _) rfl (fun K hK => ?hrg33_7) AllReadyH.nil))
    case' hrg33_1 =>
      go_simp
      refine hK.out _ _ ?hrg34S (fun hHeld => ?hrg34g)
      case hrg34S => (try dsimp only); (exact HS.out _ (below_of W0 _).drew)
      clear hK K
      (try simp only [Act.put]); (try simp only [List.getElem_toArray]); (try simp only [List.getElem_cons_succ]); (try simp only [List.getElem_cons_zero]); (try simp only [List.setIfInBounds_toArray]); (try simp only [List.set_cons_succ]); (try simp only [List.set_cons_zero])
      refine wpAnyH_ready (rs := [2, 7]) (by kernel_rfl) (by simp) ?_
      refine (AllReadyH.cons (o := _) rfl (fun K hK => ?hrg35_2) (AllReadyH.cons (o := _) rfl (fun K hK => ?hrg35_7) AllReadyH.nil))
      case' hrg35_2 =>
        go_simp
        refine hK.out _ _ ?hrg36S (fun hHeld => ?hrg36g)
        case hrg36S => (try dsimp only); (exact HS.out _ (below_of W0 _).drew)
        clear hK K
        (try simp only [Act.put]); (try simp only [List.getElem_toArray]); (try simp only [List.getElem_cons_succ]); (try simp only [List.getElem_cons_zero]); (try simp only [List.setIfInBounds_toArray]); (try simp only [List.set_cons_succ]); (try simp only [List.set_cons_zero])
        refine wpAnyH_ready (rs := [7]) (by kernel_rfl) (by simp) ?_
        refine (AllReadyH.cons (o := _) rfl (fun K hK => ?hrg37_7) AllReadyH.nil)
        case' hrg37_7 =>
          go_simp; go_at_call 119; refine (squarePut_yes _ _ _ HOB.out).mono ?_; rintro e w5 ⟨rfl, hb5⟩; have hw5 : Below W0.heap.size W0 w5 := (below_of W0 (.cells #[.int .u8 (nm)] 5)).drew.trans (hb5.mono (by show W0.heap.size ≤ _; simp)); have hc5 := conv_at (nm) w5 W0.heap.size ((Blk.below (Blk.drew (Blk.new W0 #[.int .u8 (nm)] 5)) hb5 (by simp)).cell 0)
          refine hK.out _ _ ?hrg38S (fun hHeld => ?hrg38g)
          case hrg38S => (try dsimp only); (exact HS.out _ hw5)
          clear hK K
          (try simp only [Act.put]); (try simp only [List.getElem_toArray]); (try simp only [List.getElem_cons_succ]); (try simp only [List.getElem_cons_zero]); (try simp only [List.setIfInBounds_toArray]); (try simp only [List.set_cons_succ]); (try simp only [List.set_cons_zero])
          refine wpAnyH_take (i := 8) (oi := _) (v := ?hrg39v) rfl (by kernel_rfl) (by kernel_rfl) (by kernel_rfl) (fun _ _ _ h => h) (Or.inl ⟨by rfl, ?hrg39y⟩) (by assumption) ?hrg39r
          case hrg39y => (intro w hSw; (try dsimp only at hSw); go_simp; all_goals (with_reducible rfl))
          (try simp only [Act.put]); (try simp only [List.getElem_toArray]); (try simp only [List.getElem_cons_succ]); (try simp only [List.getElem_cons_zero]); (try simp only [List.setIfInBounds_toArray]); (try simp only [List.set_cons_succ]); (try simp only [List.set_cons_zero])
          refine wpAnyH_take (i := 9) (oi := _) (v := ?hrg40v) rfl (by kernel_rfl) (by kernel_rfl) (by kernel_rfl) (fun _ _ _ h => h) (Or.inl ⟨by rfl, ?hrg40y⟩) (by assumption) ?hrg40r
          case hrg40y => (intro w hSw; (try dsimp only at hSw); go_simp; all_goals (with_reducible rfl))
          (try simp only [Act.put]); (try simp only [List.getElem_toArray]); (try simp only [List.getElem_cons_succ]); (try simp only [List.getElem_cons_zero]); (try simp only [List.setIfInBounds_toArray]); (try simp only [List.set_cons_succ]); (try simp only [List.set_cons_zero])
          refine wpAnyH_done (by kernel_rfl) ?_ _
      case' hrg35_7 =>
        go_simp; go_at_call 119; refine (squarePut_yes _ _ _ HOB.out).mono ?_; rintro e w5 ⟨rfl, hb5⟩; have hw5 : Below W0.heap.size W0 w5 := (below_of W0 (.cells #[.int .u8 (nm)] 5)).drew.trans (hb5.mono (by show W0.heap.size ≤ _; simp)); have hc5 := conv_at (nm) w5 W0.heap.size ((Blk.below (Blk.drew (Blk.new W0 #[.int .u8 (nm)] 5)) hb5 (by simp)).cell 0)
        refine hK.out _ _ ?hrg41S (fun hHeld => ?hrg41g)
        case hrg41S => (try dsimp only); (exact HS.out _ hw5)
        clear hK K
        (try simp only [Act.put]); (try simp only [List.getElem_toArray]); (try simp only [List.getElem_cons_succ]); (try simp only [List.getElem_cons_zero]); (try simp only [List.setIfInBounds_toArray]); (try simp only [List.set_cons_succ]); (try simp only [List.set_cons_zero])
        refine wpAnyH_ready (rs := [2]) (by kernel_rfl) (by simp) ?_
        refine (AllReadyH.cons (o := _) rfl (fun K hK => ?hrg42_2) AllReadyH.nil)
        case' hrg42_2 =>
          go_simp
          refine hK.out _ _ ?hrg43S (fun hHeld => ?hrg43g)
          case hrg43S => (try dsimp only); (exact HS.out _ hw5)
          clear hK K
          (try simp only [Act.put]); (try simp only [List.getElem_toArray]); (try simp only [List.getElem_cons_succ]); (try simp only [List.getElem_cons_zero]); (try simp only [List.setIfInBounds_toArray]); (try simp only [List.set_cons_succ]); (try simp only [List.set_cons_zero])
          refine wpAnyH_take (i := 8) (oi := _) (v := ?hrg44v) rfl (by kernel_rfl) (by kernel_rfl) (by kernel_rfl) (fun _ _ _ h => h) (Or.inl ⟨by rfl, ?hrg44y⟩) (by assumption) ?hrg44r
          case hrg44y => (intro w hSw; (try dsimp only at hSw); go_simp; all_goals (with_reducible rfl))
          (try simp only [Act.put]); (try simp only [List.getElem_toArray]); (try simp only [List.getElem_cons_succ]); (try simp only [List.getElem_cons_zero]); (try simp only [List.setIfInBounds_toArray]); (try simp only [List.set_cons_succ]); (try simp only [List.set_cons_zero])
          refine wpAnyH_take (i := 9) (oi := _) (v := ?hrg45v) rfl (by kernel_rfl) (by kernel_rfl) (by kernel_rfl) (fun _ _ _ h => h) (Or.inl ⟨by rfl, ?hrg45y⟩) (by assumption) ?hrg45r
          case hrg45y => (intro w hSw; (try dsimp only at hSw); go_simp; all_goals (with_reducible rfl))
          (try simp only [Act.put]); (try simp only [List.getElem_toArray]); (try simp only [List.getElem_cons_succ]); (try simp only [List.getElem_cons_zero]); (try simp only [List.setIfInBounds_toArray]); (try simp only [List.set_cons_succ]); (try simp only [List.set_cons_zero])
          refine wpAnyH_done (by kernel_rfl) ?_ _
    case' hrg33_7 =>
      go_simp; go_at_call 119; refine (squarePut_yes _ _ _ HOB.out).mono ?_; rintro e w5 ⟨rfl, hb5⟩; have hw5 : Below W0.heap.size W0 w5 := hw.trans (hb5.mono (Nat.le_refl _)); have hc3 := (fun x => conv1 w5 x)
      refine hK.out _ _ ?hrg46S (fun hHeld => ?hrg46g)
      case hrg46S => (try dsimp only); (exact HS.out _ hw5)
      clear hK K
      (try simp only [Act.put]); (try simp only [List.getElem_toArray]); (try simp only [List.getElem_cons_succ]); (try simp only [List.getElem_cons_zero]); (try simp only [List.setIfInBounds_toArray]); (try simp only [List.set_cons_succ]); (try simp only [List.set_cons_zero])
      refine wpAnyH_ready (rs := [1]) (by kernel_rfl) (by simp) ?_
      refine (AllReadyH.cons (o := _) rfl (fun K hK => ?hrg47_1) AllReadyH.nil)
      case' hrg47_1 =>
        go_simp
        refine hK.out _ _ ?hrg48S (fun hHeld => ?hrg48g)
        case hrg48S => (try dsimp only); (exact HS.out _ (hw5.alloc hw5.size _))
        clear hK K
        (try simp only [Act.put]); (try simp only [List.getElem_toArray]); (try simp only [List.getElem_cons_succ]); (try simp only [List.getElem_cons_zero]); (try simp only [List.setIfInBounds_toArray]); (try simp only [List.set_cons_succ]); (try simp only [List.set_cons_zero])
        refine wpAnyH_ready (rs := [2]) (by kernel_rfl) (by simp) ?_
        refine (AllReadyH.cons (o := _) rfl (fun K hK => ?hrg49_2) AllReadyH.nil)
        case' hrg49_2 =>
          go_simp
          refine hK.out _ _ ?hrg50S (fun hHeld => ?hrg50g)
          case hrg50S => (try dsimp only); (exact HS.out _ (hw5.alloc hw5.size _))
          clear hK K
          (try simp only [Act.put]); (try simp only [List.getElem_toArray]); (try simp only [List.getElem_cons_succ]); (try simp only [List.getElem_cons_zero]); (try simp only [List.setIfInBounds_toArray]); (try simp only [List.set_cons_succ]); (try simp only [List.set_cons_zero])
          refine wpAnyH_take (i := 8) (oi := _) (v := ?hrg51v) rfl (by kernel_rfl) (by kernel_rfl) (by kernel_rfl) (fun _ _ _ h => h) (Or.inl ⟨by rfl, ?hrg51y⟩) (by assumption) ?hrg51r
          case hrg51y => (intro w hSw; (try dsimp only at hSw); go_simp; all_goals (with_reducible rfl))
          (try simp only [Act.put]); (try simp only [List.getElem_toArray]); (try simp only [List.getElem_cons_succ]); (try simp only [List.getElem_cons_zero]); (try simp only [List.setIfInBounds_toArray]); (try simp only [List.set_cons_succ]); (try simp only [List.set_cons_zero])
          refine wpAnyH_take (i := 9) (oi := _) (v := ?hrg52v) rfl (by kernel_rfl) (by kernel_rfl) (by kernel_rfl) (fun _ _ _ h => h) (Or.inl ⟨by rfl, ?hrg52y⟩) (by assumption) ?hrg52r
          case hrg52y => (intro w hSw; (try dsimp only at hSw); go_simp; all_goals (with_reducible rfl))
          (try simp only [Act.put]); (try simp only [List.getElem_toArray]); (try simp only [List.getElem_cons_succ]); (try simp only [List.getElem_cons_zero]); (try simp only [List.setIfInBounds_toArray]); (try simp only [List.set_cons_succ]); (try simp only [List.set_cons_zero])
          refine wpAnyH_done (by kernel_rfl) ?_ _
    all_goals
      go_wp2_with fail
      go_ret
      exact ⟨congrArg (fun x => Ending.returned (Value.string x)) HNX.out, HBE.out.trans (Below.mono (by first | exact hw5 | exact hw5.alloc hw5.size _) hz)⟩

end Go.Proofs.YtcgfklljbblhlaaGreatDoor.Ko

namespace Go.Proofs.YtcgfklljbblhlaaGreatDoor.Ko
open Go.ChangeShapes Go.WideShapes Go.ChangeAt Go.RowKit Base Sq
set_option linter.unusedVariables false
set_option maxRecDepth 20000
attribute [local irreducible] wpQuiet

set_option maxHeartbeats 8000000 in
theorem posPut_any (side : Int) (A : Option Addr) (c : Nat) (ks : List Kd) (t : Int) (M : Option Addr) (cm : Nat) (l : List St) (w : World) (hR : IsKinds w w.heap.size A ks) (hM : IsSteps w w.heap.size M l) (hsm : Small ks) (hl : l.length ≤ 1048576) :
    Calls Tryz.prog 85 #[.agg #[.int .i64 side, .slice A ks.length c], .agg #[.int .i64 t, .slice M l.length cm]] w fun e w' => e = .returned (.string (txt (posT side ks t l))) ∧ Below w.heap.size w w' := by
  have hb0 : Below w.heap.size w ((w.alloc (.cells #[.int .i64 side, .slice A ks.length c] 40)).alloc (.cells #[.int .i64 t, .slice M l.length cm] 35)) := (by repeat (first | exact Below.refl _ _ | assumption | (refine Below.alloc ?_ (by first | omega | (simp; done) | (simp; omega)) _) | (refine Below.setCell ?_ (by first | omega | (simp; done) | (simp; omega)) _) | refine Below.drew ?_))
  have p1 := (Blk.new w #[.int .i64 side, .slice A ks.length c] 40).alloc (.cells #[.int .i64 t, .slice M l.length cm] 35)
  have p2 := Blk.new (w.alloc (.cells #[.int .i64 side, .slice A ks.length c] 40)) #[.int .i64 t, .slice M l.length cm] 35
  simp only [World.size_alloc] at p2
  have HT0 := Lib.hid (fun h => show posT side ks t l = [] from if_neg h)
  have HT1 := Lib.hid (fun h => show posT side ks t l = posU side ks t l from if_pos h)
  go_enter Tryz.func85, Tryz.ntmps85
  go_wp2_with fail
  generalize hW0 : (w.alloc _).alloc _ = W0 at *
  clear hW0
  refine (posOk_any _ _ _ _ _ _ _ _ _ ((hR.below hb0).more hb0.size) ((hM.below hb0).more hb0.size) hsm hl).mono ?_
  rintro e w2 ⟨rfl, hb2⟩
  have q1 := p1.below hb2 p1.lt
  have q2 := p2.below hb2 p2.lt
  have hbe := hb0.trans (hb2.mono hb0.size)
  clear p1 p2 hb0 hb2
  cases hp : posB side ks t l
  · have HV := Lib.hid (HT0.out (by rw [hp]; decide))
    clear hp HT0 HT1
    go_wp2_with fail
    go_ret
    exact ⟨by rw [HV.out]; rfl, hbe⟩
  · have HV := Lib.hid (HT1.out hp)
    obtain ⟨hok, hsh, _⟩ := posB_facts hp
    obtain ⟨ht, hl4, _, _, hmen⟩ := shapeB_facts hsh
    have HOK := Lib.hid hok
    have HMEN := Lib.hid hmen
    have HR := Lib.hid (hR.below hbe)
    have HM := Lib.hid (hM.below hbe)
    have HTD := Lib.hid (show t = 0 ∨ t = 1 by omega)
    have hz := hbe.size
    have z1 := q1.lt
    have z2 := q2.lt
    have HBB := Lib.hid (Bld.Is.fresh w2 w2.heap.size (Nat.le_refl _))
    have HA := Lib.hid (below_of w2 (.cells #[.pointer none, .slice none 0 0] 142))
    obtain ⟨⟨o0, o1⟩, _⟩ := (q2.alloc (.cells #[.pointer none, .slice none 0 0] 142)).at2
    have HQ1 := Lib.hid q1
    have HQ2 := Lib.hid q2
    have HBE := Lib.hid hbe
    clear hp HT0 HT1 hok hsh hmen hR hM hbe q1 q2
    go_wp2_with fail
    generalize hWb : w2.alloc _ = Wb at *
    clear hWb
    refine (sitoa_dig t (HTD.out.elim .inl (fun h => .inr (.inl h))) _).mono ?_
    rintro e w3 ⟨rfl, rfl⟩
    have hdt : (⟨#[UInt8.ofNat (48 + t.toNat)]⟩ : ByteArray) = txt [digU t] := rfl
    rw [hdt]
    clear hdt
    go_wp2_with fail
    refine (Bld.write_any w2.heap.size w2.heap.size [] (txt [digU t]) _ HBB.out (by show 0 + 1 ≤ _; omega) HA.out.size).mono ?_
    rintro e w4 ⟨rfl, hat4, hb4⟩
    have HAT := Lib.hid (show Bld.At w2.heap.size w2.heap.size (posUK side ks t l 0) w4 from hat4)
    have HB4 := Lib.hid (HA.out.trans hb4)
    clear hat4 hb4 o0 o1
    obtain ⟨⟨o0, o1⟩, _⟩ := (HQ2.out.below HB4.out z2).at2
    go_wp2_with fail
    go_loopw [19] (fun i wr => ∃ k : Nat, k ≤ l.length ∧ i = .int .i64 k ∧ Hid (Bld.At w2.heap.size w2.heap.size (posUK side ks t l k) wr) ∧ Hid (Below w2.heap.size w2 wr)) (fun i _ => l.length - (intOf i).toNat)
    case atStart => exact ⟨0, by omega, rfl, HAT, HB4⟩
    case round =>
      clear o0 o1
      obtain ⟨k, hk, rfl, hat, hb⟩ := hrel
      obtain ⟨⟨r0, r1⟩, _⟩ := (HQ1.out.below hb.out z1).at2
      have hzr := hb.out.size
      by_cases hlt : k < l.length
      · obtain ⟨b, off, rfl, hB, hc⟩ := HM.out.below (hb.out.mono hz) (by omega)
        obtain ⟨m0, m1, m2⟩ := hc k hlt
        obtain ⟨hx, _, hu, _⟩ := HMEN.out k hlt
        have HX := Lib.hid hx
        have HU := Lib.hid hu
        have hk0 : (0 : Int) ≤ (k : Int) := by omega
        have hk3 : (k : Int) < (l.length : Int) := by omega
        obtain ⟨s, hs⟩ : ∃ s, s = stAt l k := ⟨_, rfl⟩
        have hA := Lib.hid (below_of wr (.cells #[.int .i64 s.dx, .int .i64 s.dy, .int .i64 s.far] 105))
        have hba := Lib.hid (hb.out.trans (hA.out.mono hzr))
        have HNX := Lib.hid (posUK_next side ks t l k)
        rw [← hs] at m0 m1 m2 HX HU HNX
        have HQB := Lib.hid (HQ1.out.below hba.out z1)
        obtain ⟨⟨g0, g1⟩, _⟩ := HQB.out.at2
        have HKR := Lib.hid (((HR.out.below (hba.out.mono hz))).more (Nat.le_trans hz hba.out.size))
        have HAT2 := Lib.hid (Bld.Is.below (.inr hat.out) hA.out)
        clear hc hx hu hs r0 r1
        go_wp2_with fail
        generalize hWm : wr.alloc _ = Wm at *
        clear hWm
        refine (manText_any side A c ks s _ HKR.out HOK.out HX.out HU.out).mono ?_
        rintro e w6 ⟨rfl, hb6⟩
        have HB6 := Lib.hid hb6
        have HAT6 := Lib.hid (Bld.Is.below HAT2.out hb6)
        obtain ⟨T1, hT1⟩ : ∃ T1, T1 = txt (manU side ks s) := ⟨_, rfl⟩
        have ha1 : ∀ w', (Op.stringOp .add ⟨#[32]⟩ T1).run Tryz.prog w' = .ok (.string (⟨#[32]⟩ ++ T1)) w' := fun w' => run_string_add_sum _ _ _ (by rw [hT1, txt_size]; show 1 + 3 ≤ _; omega)
        have HTE := Lib.hid (show posUK side ks t l k ++ (⟨#[32]⟩ ++ T1 : ByteArray).data.toList = posUK side ks t l (k + 1) by
          rw [hT1, ← HNX.out]; simp [txt, ByteArray.data_append])
        have HTS := Lib.hid (show (⟨#[32]⟩ ++ T1 : ByteArray).size = 4 by rw [ByteArray.size_append, hT1, txt_size]; rfl)
        rw [← hT1]
        clear hT1 hb6 g0 g1
        go_wp2_with fail
        have hsz : (posUK side ks t l k).length + (⟨#[32]⟩ ++ T1 : ByteArray).size ≤ 140737488355328 := by rw [HTS.out, posUK_len]; omega
        have hle : w2.heap.size ≤ w6.heap.size := Nat.le_trans hba.out.size HB6.out.size
        have HW := Bld.write_any w2.heap.size w2.heap.size (posUK side ks t l k) (⟨#[32]⟩ ++ T1) w6 HAT6.out hsz hle
        clear hsz hle
        refine HW.mono ?_
        clear HW
        rintro e w7 ⟨rfl, hat7, hb7⟩
        rw [HTE.out] at hat7
        have HAT7 := Lib.hid hat7
        have HB7 := Lib.hid ((hba.out.trans (HB6.out.mono hba.out.size)).trans hb7)
        clear hat7 hb7
        go_wp2_with fail
        go_roundw
        case rel => exact ⟨k + 1, by omega, by go_num, HAT7, HB7⟩
        case measure => simp [intOf]; omega
      · obtain rfl : k = l.length := by omega
        clear r0 r1
        go_wp2_with fail
        refine (Bld.text_any w2.heap.size w2.heap.size (posU side ks t l) _ (.inr hat.out) (by unfold posU posUK; simp)).mono ?_
        rintro e w8 ⟨rfl, hb8⟩
        have HB8 := Lib.hid (HBE.out.trans ((hb.out.trans hb8).mono hz))
        clear hb8
        go_wp2_with fail
        go_ret
        exact ⟨by rw [HV.out]; rfl, HB8.out⟩
end Go.Proofs.YtcgfklljbblhlaaGreatDoor.Ko
