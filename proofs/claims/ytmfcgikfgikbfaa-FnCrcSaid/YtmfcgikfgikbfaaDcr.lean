/- What the model draws for the law FnCrc: one of four texts; values. -/
import Derived.Test.YtmfcgikfgikbfaaRq
import Derived.Test.YtmfcgikfgikbfaaCrw
import Derived.Lib.ConvBytes
import Derived.Laws.BytesArg
namespace Go.Proofs.Ytmfcgikfgikbfaa.Crc
open Go.ChangeShapes Go.WideShapes Go.ChangeAt Go.RowKit Base Rd
set_option linter.unusedVariables false
set_option maxRecDepth 20000

/-- the texts that are drawn -/
def Drawn (s : ByteArray) : Prop := s = ⟨#[]⟩ ∨ s = ⟨#[49, 50, 51, 52, 53, 54, 55, 56, 57]⟩ ∨ s = ⟨#[97]⟩ ∨ s = ⟨#[51, 42, 48, 44, 49, 44]⟩
set_option maxHeartbeats 2000000 in
theorem drawCrc_any (A : Option Addr) (n c : Nat) (zs : List Int) (w : World) (h : IsRow .u8 w A n c zs) (hn : n ≤ 1048576) :
    Calls Try.prog 27 #[.slice A n c] w fun e w' => ∃ s : ByteArray, Drawn s ∧ e = .returned (.string s) ∧ Below w.heap.size w w' := by
  go_enter Try.func27, Try.ntmps27
  go_wp2_with fail
  refine (open_any _ _ _ _ _ h hn).mono ?_
  rintro e w0 ⟨g, rfl, hg, hr0, hb0⟩
  clear h
  go_wp2_with fail
  have hA := below_of w0 (.cells #[.string ⟨#[]⟩, .string ⟨#[49, 50, 51, 52, 53, 54, 55, 56, 57]⟩, .string ⟨#[97]⟩, .string ⟨#[51, 42, 48, 44, 49, 44]⟩] 9)
  have hL := Blk.new w0 #[.string ⟨#[]⟩, .string ⟨#[49, 50, 51, 52, 53, 54, 55, 56, 57]⟩, .string ⟨#[97]⟩, .string ⟨#[51, 42, 48, 44, 49, 44]⟩] 9
  have hrA := hr0.below hA
  have hbA := hb0.trans (hA.mono hb0.size)
  have hN : Strs (w0.alloc (.cells #[.string ⟨#[]⟩, .string ⟨#[49, 50, 51, 52, 53, 54, 55, 56, 57]⟩, .string ⟨#[97]⟩, .string ⟨#[51, 42, 48, 44, 49, 44]⟩] 9)) w0.heap.size 4 Drawn := fun i hi => by
    rcases (show i = 0 ∨ i = 1 ∨ i = 2 ∨ i = 3 by omega) with rfl | rfl | rfl | rfl
    · exact ⟨_, .inl rfl, hL.cell _⟩
    · exact ⟨_, .inr (.inl rfl), hL.cell _⟩
    · exact ⟨_, .inr (.inr (.inl rfl)), hL.cell _⟩
    · exact ⟨_, .inr (.inr (.inr rfl)), hL.cell _⟩
  have hgl := hr0.lt
  refine (of_any Drawn _ _ _ _ _ _ hrA (by omega) (by omega) (by omega) (by simp) (by omega) hN).mono ?_
  rintro e w1 ⟨s, hs, rfl, hr1, hbut⟩
  have hb1 := hbA.trans (hbut.below hbA.size hg)
  clear hA hL hr0 hrA hb0 hbA hN hbut hgl
  go_wp2_with fail
  go_ret
  exact ⟨s, hs, rfl, hb1⟩

/-- the text with one bit turned -/
def turned (l : List UInt8) (k j : Nat) : List UInt8 := l.set k (UInt8.ofNat ((l.getD k 0).toNat ^^^ 2 ^ j))
theorem crc_check : crcV [49, 50, 51, 52, 53, 54, 55, 56, 57] = 3421780262 := by decide +kernel
theorem crc_nil : crcV [] = 0 := by decide +kernel
theorem crc_flip {s : ByteArray} (h : Drawn s) {k j : Nat} (hk : k < s.size) (hj : j < 8) : crcV (turned s.data.toList k j) ≠ crcV s.data.toList := by
  have h9 : ∀ k : Fin 9, ∀ j : Fin 8, crcV (turned [49, 50, 51, 52, 53, 54, 55, 56, 57] k.val j.val) ≠ crcV [49, 50, 51, 52, 53, 54, 55, 56, 57] := by decide +kernel
  have h1 : ∀ k : Fin 1, ∀ j : Fin 8, crcV (turned [97] k.val j.val) ≠ crcV [97] := by decide +kernel
  have h6 : ∀ k : Fin 6, ∀ j : Fin 8, crcV (turned [51, 42, 48, 44, 49, 44] k.val j.val) ≠ crcV [51, 42, 48, 44, 49, 44] := by decide +kernel
  rcases h with rfl | rfl | rfl | rfl
  · exact absurd hk (Nat.not_lt_zero _)
  · exact h9 ⟨k, hk⟩ ⟨j, hj⟩
  · exact h1 ⟨k, hk⟩ ⟨j, hj⟩
  · exact h6 ⟨k, hk⟩ ⟨j, hj⟩

theorem bytes_free (w : World) (e : TypeId) (s : ByteArray) (j : Nat) (hj : j < s.size) : (Lib.bytesWorld w e s).frozen? ⟨w.heap.size, j, none⟩ = false := by
  have hs : s.size ≤ (Lib.bytesCells w e s).size := by
    unfold Lib.bytesCells
    simp only [Array.size_append, Array.size_map, Array.size_replicate]
    exact Nat.le_add_right _ _
  simp only [World.frozen?, Lib.bytesWorld_at_new]
  simp
  omega
theorem below_bytes (w : World) (e : TypeId) (s : ByteArray) : Below w.heap.size w (Lib.bytesWorld w e s) := by
  refine ⟨rfl, rfl, rfl, by rw [Lib.bytesWorld_size]; omega, fun k hk => Lib.bytesWorld_at_old w e s k hk⟩

theorem flip_conv {W1 : World} {g cap k j m x : Nat} {s : ByteArray} (hk : k < s.size) (hx : x = (s.data.toList.getD k 0).toNat) (hm : m = 2 ^ j) (hj : j < 8)
    (hcl : ∀ i, i < s.size → W1.cell? ⟨g, i, none⟩ = some (.int .u8 (s.data.toList.getD i 0).toNat)) :
    (convert 60 9 (.slice (some ⟨g, 0, none⟩) s.size cap)).run Try.prog (W1.setCell ⟨g, k, none⟩ (.int .u8 ((x ^^^ m : Nat) : Int))).drew = .ok (.string ⟨(turned s.data.toList k j).toArray⟩) (W1.setCell ⟨g, k, none⟩ (.int .u8 ((x ^^^ m : Nat) : Int))).drew := by
  have hlen : (turned s.data.toList k j).length = s.size := by unfold turned; simp
  have hx8 : x < 256 := by rw [hx]; exact UInt8.toNat_lt _
  have hm8 : m < 256 := by
    subst hm
    rcases (show j = 0 ∨ j = 1 ∨ j = 2 ∨ j = 3 ∨ j = 4 ∨ j = 5 ∨ j = 6 ∨ j = 7 by omega) with rfl | rfl | rfl | rfl | rfl | rfl | rfl | rfl <;> decide
  have hxm : x ^^^ m < 256 := Nat.xor_lt_two_pow (n := 8) (by omega) (by omega)
  have hat : ∀ i, i < s.size → ((turned s.data.toList k j).map fun b : UInt8 => (b.toNat : Int)).getD i 0 = if i = k then ((x ^^^ m : Nat) : Int) else ((s.data.toList.getD i 0).toNat : Int) := fun i hi => by
    have hil : i < s.data.toList.length := by simpa using hi
    have hL : ∀ (y : UInt8) (hi2 : i < (s.data.toList.set k y).length), (s.data.toList.set k y)[i] = if k = i then y else s.data.toList[i] := fun y hi2 => List.getElem_set hi2
    rw [List.getD_eq_getElem?_getD, List.getElem?_map]
    unfold turned
    rw [List.getElem?_eq_getElem (by simpa using hil), hL]
    by_cases h : i = k
    · subst h
      rw [if_pos rfl, if_pos rfl, ← hx, ← hm]
      simp only [Option.map_some, Option.getD_some]
      rw [UInt8.toNat_ofNat_of_lt' hxm]
    · rw [if_neg (fun e => h e.symm), if_neg h, List.getD_eq_getElem?_getD, List.getElem?_eq_getElem hil]; rfl
  have hres : strOfNums ((turned s.data.toList k j).map fun b : UInt8 => (b.toNat : Int)) = ⟨(turned s.data.toList k j).toArray⟩ := by
    unfold strOfNums
    rw [List.map_map]
    congr 2
    conv => rhs; rw [← List.map_id (turned s.data.toList k j)]
    apply List.map_congr_left
    intro b _
    simp
  rw [← hres]
  refine run_convert_bytes_arg _ _ _ Try.underlying60 Try.underlying5 g 0 s.size cap _ (by simpa using hlen) (fun i hi => ?_) _ Try.underlying9
  rw [hat i hi, Nat.zero_add]
  show (W1.setCell ⟨g, k, none⟩ (.int .u8 ((x ^^^ m : Nat) : Int))).cell? ⟨g, i, none⟩ = _
  by_cases h : i = k
  · subst h
    rw [if_pos rfl]
    exact World.cell?_setCell_same' _ _ _ (by rw [hcl i hi]; rfl)
  · rw [if_neg h]
    rw [World.cell?_setCell_other _ _ _ _ (fun e : (⟨g, k, none⟩ : Addr) = ⟨g, i, none⟩ => h (by injection e with _ e2 _; exact e2.symm))]
    exact hcl i hi
end Go.Proofs.Ytmfcgikfgikbfaa.Crc
