/- Crc of the program and of the model. -/
import Derived.Test.YtmfcgikfgikbfaaCrv
namespace Go.Proofs.Ytmfcgikfgikbfaa.Crc
open Go.ChangeShapes Go.WideShapes Go.ChangeAt Go.RowKit Base
set_option linter.unusedVariables false
set_option maxRecDepth 20000

theorem u32_not {x : Nat} (h : x < 4294967296) : bits .xor .u32 IntKind.u32.max (x : Int) = ((x ^^^ 4294967295 : Nat) : Int) := by
  have := u32_xor_nat 4294967295 x (by decide) h
  rw [Nat.xor_comm x]
  exact this
set_option maxHeartbeats 1000000 in
theorem crc_any (s : ByteArray) (w : World) (hs : s.size ≤ maxLen) :
    Calls Try.prog 26 #[.string s] w fun e w' => e = .returned (.int .i64 (crcV s.data.toList : Nat)) ∧ w = w' := by
  unfold maxLen at hs
  go_enter Try.func26, Try.ntmps26
  go_wp2
  go_loop [3, 7] (fun c i => ∃ k : Nat, k ≤ s.size ∧ i = .int .i64 k ∧ c = .int .u32 (cfold (s.data.toList.take k) : Nat)) (fun _ i => s.size - (intOf i).toNat)
  case atStart => exact ⟨0, Nat.zero_le _, rfl, rfl⟩
  case round =>
    obtain ⟨k, hk, rfl, rfl⟩ := hrel
    have hl := cfold_lt (s.data.toList.take k)
    by_cases hlt : k < s.size
    · have hb := u8lt s[k]
      have hl2 := xor_byte_lt hl hb
      have HN := Lib.hid (cfold_next s k hlt)
      have hxx := u32_xor_nat (cfold (s.data.toList.take k)) s[k].toNat hl hb
      go_wp2
      clear hxx
      go_loop [3, 16] (fun c i => ∃ j : Nat, j ≤ 8 ∧ i = .int .i64 j ∧ c = .int .u32 (cbits (cfold (s.data.toList.take k) ^^^ s[k].toNat) j : Nat)) (fun _ i => 8 - (intOf i).toNat)
      case atStart => exact ⟨0, Nat.zero_le _, rfl, rfl⟩
      case round =>
        obtain ⟨j, hj, rfl, rfl⟩ := hrel
        have hc := cbits_lt hl2 j
        by_cases hj8 : j < 8
        · have HS : Hid (∀ x, x = cbits (cfold (s.data.toList.take k) ^^^ s[k].toNat) j → cbits (cfold (s.data.toList.take k) ^^^ s[k].toNat) (j + 1) = cstep x) := Lib.hid (fun x hx => by rw [hx]; rfl)
          obtain ⟨x, hx⟩ : ∃ x, x = cbits (cfold (s.data.toList.take k) ^^^ s[k].toNat) j := ⟨_, rfl⟩
          have HX := Lib.hid (HS.out x hx)
          rw [← hx] at hc
          rw [← hx]
          clear hx HS HN
          have hn1 := u32_and_nat x 1 hc (by decide)
          rw [nat_mask1] at hn1
          have hxr : bits .xor .u32 ((x : Int) / 2) 3988292384 = ((x / 2 ^^^ 3988292384 : Nat) : Int) := u32_xor_nat (x / 2) 3988292384 (by omega) (by decide)
          by_cases hp : x % 2 = 1
          · have HP := Lib.hid (cstep_odd hp)
            have hand : bits .and .u32 (x : Int) 1 = 1 := by rw [hp] at hn1; exact hn1
            clear hp hn1
            go_wp2
            go_round
            case rel => exact ⟨j + 1, by omega, by go_num, by rw [HX.out, HP.out]⟩
            case measure => simp [intOf]; omega
          · have HP := Lib.hid (cstep_even hp)
            have hand : bits .and .u32 (x : Int) 1 = 0 := by rw [show x % 2 = 0 by omega] at hn1; exact hn1
            clear hp hxr hn1
            go_wp2
            go_round
            case rel => exact ⟨j + 1, by omega, by go_num, by rw [HX.out, HP.out]; first | rfl | go_num | (congr 1; omega)⟩
            case measure => simp [intOf]; omega
        · obtain rfl : j = 8 := by omega
          go_wp2
          go_round
          case rel => exact ⟨k + 1, by omega, by go_num, by rw [HN.out]; rfl⟩
          case measure => simp [intOf]; omega
    · have hn := u32_not hl
      have hlt' := xor_byte_lt hl (b := 4294967295) (by decide)
      obtain rfl : k = s.size := by omega
      have HT : Hid (s.data.toList.take s.size = s.data.toList) := Lib.hid (List.take_of_length_le (by simp))
      have HV : Hid (((cfold (s.data.toList.take s.size) ^^^ 4294967295 : Nat) : Int) = ((crcV s.data.toList : Nat) : Int)) := Lib.hid (by rw [HT.out]; rfl)
      go_wp2
      go_ret
      exact ⟨ri ((IntWalk.wrap64_in _ (by omega)).trans HV.out), rfl⟩
set_option maxHeartbeats 1000000 in
theorem l13Crc_any (s : ByteArray) (w : World) (hs : s.size ≤ maxLen) :
    Calls Try.prog 43 #[.string s] w fun e w' => e = .returned (.int .i64 (crcV s.data.toList : Nat)) ∧ w = w' := by
  unfold maxLen at hs
  go_enter Try.func43, Try.ntmps43
  go_wp2
  go_loop [3, 4] (fun c i => ∃ k : Nat, k ≤ s.size ∧ i = .int .i64 k ∧ c = .int .i64 (cfold (s.data.toList.take k) : Nat)) (fun _ i => s.size - (intOf i).toNat)
  case atStart => exact ⟨0, Nat.zero_le _, rfl, rfl⟩
  case round =>
    obtain ⟨k, hk, rfl, rfl⟩ := hrel
    have hl := cfold_lt (s.data.toList.take k)
    by_cases hlt : k < s.size
    · have hb := u8lt s[k]
      have hl2 := xor_byte_lt hl hb
      have HN := Lib.hid (cfold_next s k hlt)
      have hxx := i64_xor_nat (cfold (s.data.toList.take k)) s[k].toNat (by omega) (by omega)
      go_wp2
      clear hxx
      go_loop [3, 5] (fun c i => ∃ j : Nat, j ≤ 8 ∧ i = .int .i64 j ∧ c = .int .i64 (cbits (cfold (s.data.toList.take k) ^^^ s[k].toNat) j : Nat)) (fun _ i => 8 - (intOf i).toNat)
      case atStart => exact ⟨0, Nat.zero_le _, rfl, rfl⟩
      case round =>
        obtain ⟨j, hj, rfl, rfl⟩ := hrel
        have hc := cbits_lt hl2 j
        by_cases hj8 : j < 8
        · have HS : Hid (∀ x, x = cbits (cfold (s.data.toList.take k) ^^^ s[k].toNat) j → cbits (cfold (s.data.toList.take k) ^^^ s[k].toNat) (j + 1) = cstep x) := Lib.hid (fun x hx => by rw [hx]; rfl)
          obtain ⟨x, hx⟩ : ∃ x, x = cbits (cfold (s.data.toList.take k) ^^^ s[k].toNat) j := ⟨_, rfl⟩
          have HX := Lib.hid (HS.out x hx)
          rw [← hx] at hc
          rw [← hx]
          clear hx HS HN
          have hxr : bits .xor .i64 ((x : Int) / 2) 3988292384 = ((x / 2 ^^^ 3988292384 : Nat) : Int) := i64_xor_nat (x / 2) 3988292384 (by omega) (by decide)
          by_cases hp : x % 2 = 1
          · have HP := Lib.hid (cstep_odd hp)
            have hand : (x : Int) % 2 = 1 := by omega
            have hd : (((x : Int) % 2) == 1) = true := by simp [hand]
            clear hp hand
            go_wp2
            go_round
            case rel => exact ⟨j + 1, by omega, by go_num, by rw [HX.out, HP.out]⟩
            case measure => simp [intOf]; omega
          · have HP := Lib.hid (cstep_even hp)
            have hd : (((x : Int) % 2) == 1) = false := by simp; omega
            clear hp hxr
            go_wp2
            go_round
            case rel => exact ⟨j + 1, by omega, by go_num, by rw [HX.out, HP.out]; first | rfl | go_num | (congr 1; omega)⟩
            case measure => simp [intOf]; omega
        · obtain rfl : j = 8 := by omega
          go_wp2
          go_round
          case rel => exact ⟨k + 1, by omega, by go_num, by rw [HN.out]; rfl⟩
          case measure => simp [intOf]; omega
    · have hn := u32_not hl
      have hlt' := xor_byte_lt hl (b := 4294967295) (by decide)
      obtain rfl : k = s.size := by omega
      have HT : Hid (s.data.toList.take s.size = s.data.toList) := Lib.hid (List.take_of_length_le (by simp))
      have HV : Hid (((cfold (s.data.toList.take s.size) ^^^ 4294967295 : Nat) : Int) = ((crcV s.data.toList : Nat) : Int)) := Lib.hid (by rw [HT.out]; rfl)
      go_wp2
      go_ret
      exact ⟨ri ((i64_xor_nat _ 4294967295 (by omega) (by decide)).trans HV.out), rfl⟩
theorem specCrc_any (s : ByteArray) (w : World) (hs : s.size ≤ maxLen) :
    Calls Try.prog 25 #[.string s] w fun e w' => e = .returned (.int .i64 (crcV s.data.toList : Nat)) ∧ w = w' := by
  go_enter Try.func25, Try.ntmps25
  go_wp2_with (go_at_call 43; refine (l13Crc_any _ _ hs).mono ?_; rintro e w' ⟨rfl, rfl⟩)
  go_ret
  exact ⟨rfl, rfl⟩
end Go.Proofs.Ytmfcgikfgikbfaa.Crc
