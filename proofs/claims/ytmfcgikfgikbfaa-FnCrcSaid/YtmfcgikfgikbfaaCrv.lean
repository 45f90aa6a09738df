/- The checksum of a text: values. -/
import Derived.Test.YtmfcgikfgikbfaaBase
import Derived.Laws.BitsAllLaws
namespace Go.Proofs.Ytmfcgikfgikbfaa.Crc
open Go.RowKit
set_option linter.unusedVariables false
set_option maxRecDepth 20000

theorem i64_xor_nat (a b : Nat) (ha : a < 9223372036854775808) (hb : b < 9223372036854775808) : bits .xor .i64 (a : Int) (b : Int) = ((a ^^^ b : Nat) : Int) := by
  have hx : a ^^^ b < 2 ^ 63 := Nat.xor_lt_two_pow (by omega) (by omega)
  show IntKind.i64.wrap ((BitVec.ofInt 64 (a : Int) ^^^ BitVec.ofInt 64 (b : Int)).toNat : Int) = _
  rw [BitVec.toNat_xor, ofInt_u64 a (by omega), ofInt_u64 b (by omega)]
  exact IntWalk.i64_in _ (by omega)
/-- one bit -/
def cstep (c : Nat) : Nat := if c % 2 = 1 then c / 2 ^^^ 3988292384 else c / 2
def cbits (c : Nat) : Nat → Nat
  | 0 => c
  | k + 1 => cstep (cbits c k)
/-- one byte -/
def cbyte (c b : Nat) : Nat := cbits (c ^^^ b) 8
def cfold (l : List UInt8) : Nat := l.foldl (fun c b => cbyte c b.toNat) 4294967295
def crcV (l : List UInt8) : Nat := cfold l ^^^ 4294967295
theorem cstep_lt {c : Nat} (h : c < 4294967296) : cstep c < 4294967296 := by
  unfold cstep
  split
  · exact Nat.xor_lt_two_pow (n := 32) (by omega) (by omega)
  · omega
theorem cbits_lt {c : Nat} (h : c < 4294967296) (k : Nat) : cbits c k < 4294967296 := by
  induction k with
  | zero => exact h
  | succ k ih => exact cstep_lt ih
theorem xor_byte_lt {c b : Nat} (h : c < 4294967296) (hb : b < 4294967296) : c ^^^ b < 4294967296 := Nat.xor_lt_two_pow (n := 32) (by omega) (by omega)
theorem cbyte_lt {c b : Nat} (h : c < 4294967296) (hb : b < 4294967296) : cbyte c b < 4294967296 := cbits_lt (xor_byte_lt h hb) 8
theorem cfold_snoc (l : List UInt8) (b : UInt8) : cfold (l ++ [b]) = cbyte (cfold l) b.toNat := by unfold cfold; rw [List.foldl_append]; rfl
theorem u8lt (b : UInt8) : b.toNat < 4294967296 := Nat.lt_trans b.toNat_lt (by decide)
theorem foldl_lt (l : List UInt8) (c : Nat) (h : c < 4294967296) : l.foldl (fun c b => cbyte c b.toNat) c < 4294967296 := by
  induction l generalizing c with
  | nil => exact h
  | cons b l ih => exact ih _ (cbyte_lt h (u8lt b))
theorem cfold_lt (l : List UInt8) : cfold l < 4294967296 := foldl_lt l _ (by decide)
theorem crcV_lt (l : List UInt8) : crcV l < 4294967296 := xor_byte_lt (cfold_lt l) (by decide)
theorem cstep_odd {c : Nat} (h : c % 2 = 1) : cstep c = c / 2 ^^^ 3988292384 := if_pos h
theorem cstep_even {c : Nat} (h : ¬ c % 2 = 1) : cstep c = c / 2 := if_neg h
theorem take_snoc (s : ByteArray) (k : Nat) (h : k < s.size) : s.data.toList.take (k + 1) = s.data.toList.take k ++ [s[k]] := by
  rw [List.take_succ_eq_append_getElem (by simpa using h)]; rfl
theorem cfold_next (s : ByteArray) (k : Nat) (h : k < s.size) : cfold (s.data.toList.take (k + 1)) = cbyte (cfold (s.data.toList.take k)) s[k].toNat := by
  rw [take_snoc s k h, cfold_snoc]
end Go.Proofs.Ytmfcgikfgikbfaa.Crc
