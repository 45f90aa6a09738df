/- The walk of the law FnCrc. -/
import Derived.Test.YtmfcgikfgikbfaaDcr
namespace Go.Proofs.Ytmfcgikfgikbfaa.Laws
open Go.ChangeShapes Go.WideShapes Go.ChangeAt Go.RowKit Base Crc Rd
set_option linter.unusedVariables false
set_option maxRecDepth 20000

set_option maxHeartbeats 4000000 in
theorem fnCrc_walk (w : World) (A : Option Addr) (n c : Nat) (zs : List Int) (h : IsRow .u8 w A n c zs) (A' : Option Addr) (n' c' : Nat) (zs' : List Int) (h' : IsRow .u8 w A' n' c' zs') :
    Calls Try.prog 6 #[.slice A n c, .slice A' n' c'] w fun e w' => e = .returned (.bool true) ∧ Below w.heap.size w w' := by
  by_cases hn : 1048576 < n
  · have hd : decide (1048576 < (n : Int)) = true := decide_eq_true (by omega)
    clear h h'
    go_enter Try.func6, Try.ntmps6
    go_wp2_with fail
    go_ret
    exact ⟨rfl, Below.refl _ _⟩
  have hd : decide (1048576 < (n : Int)) = false := decide_eq_false (by omega)
  by_cases hn' : 1048576 < n'
  · have hd' : decide (1048576 < (n' : Int)) = true := decide_eq_true (by omega)
    clear h h'
    go_enter Try.func6, Try.ntmps6
    go_wp2_with fail
    go_ret
    exact ⟨rfl, Below.refl _ _⟩
  have hd' : decide (1048576 < (n' : Int)) = false := decide_eq_false (by omega)
  have hn2 : n ≤ 1048576 := by omega
  have hn2' : n' ≤ 1048576 := by omega
  have HH := Lib.hid h
  clear h h' hn hn'
  go_enter Try.func6, Try.ntmps6
  go_wp2_with fail
  refine (drawCrc_any _ _ _ _ _ HH.out hn2).mono ?_
  rintro e w1 ⟨s, hs, rfl, hb⟩
  have hs9 : s.size ≤ 9 := by rcases hs with rfl | rfl | rfl | rfl <;> decide
  have HS := Lib.hid hs
  have hml : s.size ≤ maxLen := by unfold maxLen; omega
  have hK : Hid (((crcV (ByteArray.mk #[49, 50, 51, 52, 53, 54, 55, 56, 57]).data.toList : Nat) : Int) = 3421780262) := Lib.hid (by rw [crc_check]; rfl)
  clear hs
  go_wp2_with fail
  refine (crc_any _ _ hml).mono ?_
  rintro e w2 ⟨rfl, rfl⟩
  by_cases h0 : s.size = 0
  · obtain rfl : s = ⟨#[]⟩ := by
      rcases HS.out with rfl | rfl | rfl | rfl
      · rfl
      · exact absurd h0 (by decide)
      · exact absurd h0 (by decide)
      · exact absurd h0 (by decide)
    have hz : Hid (((crcV (ByteArray.mk #[]).data.toList : Nat) : Int) = 0) := Lib.hid (by rw [show (ByteArray.mk #[]).data.toList = [] from rfl, crc_nil]; rfl)
    rw [hz.out]
    clear h0
    go_wp2_with (first | (go_at_call 25; refine (specCrc_any _ _ (by decide)).mono ?_; rw [hz.out]; rintro e w' ⟨rfl, rfl⟩) | (go_at_call 26; refine (crc_any _ _ (by decide)).mono ?_; rw [hK.out]; rintro e w' ⟨rfl, rfl⟩))
    go_ret
    exact ⟨rb (by first | rfl | simp), hb⟩
  · have hlt := crcV_lt s.data.toList
    have hse : (((s.size : Nat) : Int) == 0) = false := by rw [beq_eq_false_iff_ne]; omega
    obtain ⟨C, hC⟩ : ∃ C : Nat, C = crcV s.data.toList := ⟨_, rfl⟩
    have HC := Lib.hid hC.symm
    rw [← hC] at hlt
    rw [← hC]
    clear hC
    have hcv : ∀ W : World, (convert 9 60 (.string s)).run Try.prog W = .ok (.slice (some ⟨W.heap.size, 0, none⟩) s.size (grownCap W s.size 0 5)) (Lib.bytesWorld W 5 s) := fun W => Lib.run_convert_string_bytes W _ _ _ s Try.underlying9 Try.underlying60 Try.underlying5
    go_wp2_with (first | (go_at_call 25; refine (specCrc_any _ _ hml).mono ?_; rw [HC.out]; rintro e w' ⟨rfl, rfl⟩) | (go_at_call 26; refine (crc_any _ _ (by decide)).mono ?_; rw [hK.out]; rintro e w' ⟨rfl, rfl⟩))
    have hb2 := hb.trans ((below_bytes w1 5 s).mono hb.size)
    have hcl := Lib.hid (fun j hj => Lib.bytesWorld_cell w1 5 s j hj)
    obtain ⟨k, hk⟩ : ∃ k, k = n' % s.size := ⟨_, rfl⟩
    have hks : k < s.size := by rw [hk]; exact Nat.mod_lt _ (by omega)
    have c0 := hcl.out k hks
    have f0 := bytes_free w1 5 s k hks
    have hz := Lib.bytesWorld_size w1 5 s
    rw [show ((n' : Int) % (s.size : Int)) = ((k : Nat) : Int) from by rw [hk]; rfl]
    generalize hW1 : Lib.bytesWorld w1 5 s = W1 at *
    generalize hg : w1.heap.size = g at *
    clear hcv hW1 hk
    have hz1 : g < W1.heap.size := by omega
    obtain ⟨x, hx⟩ : ∃ x, x = (s.data.toList.getD k 0).toNat := ⟨_, rfl⟩
    have hx8 : x < 256 := by rw [hx]; exact UInt8.toNat_lt _
    have HX := Lib.hid hx
    rw [← hx] at c0
    clear hx hz
    have hj : n' % 8 = 0 ∨ n' % 8 = 1 ∨ n' % 8 = 2 ∨ n' % 8 = 3 ∨ n' % 8 = 4 ∨ n' % 8 = 5 ∨ n' % 8 = 6 ∨ n' % 8 = 7 := by omega
    rcases hj with hj | hj | hj | hj | hj | hj | hj | hj
    · have hji : ((n' : Int) % 8) = 0 := by omega
      have hxr : bits .xor .u8 (x : Int) 1 = ((x ^^^ 1 : Nat) : Int) := u8_xor_nat x 1 hx8 (by decide)
      have hcv2 := flip_conv (cap := grownCap w1 s.size 0 5) hks HX.out (show 1 = 2 ^ 0 by decide) (by decide) hcl.out
      have hne := Lib.hid (crc_flip HS.out hks (show 0 < 8 by decide))
      have hmf : (ByteArray.mk (turned s.data.toList k 0).toArray).size ≤ maxLen := by
        have : (ByteArray.mk (turned s.data.toList k 0).toArray).size = s.size := by unfold turned; show (List.toArray _).size = _; simp
        rw [this]; exact hml
      have HB := Lib.hid (show Below w.heap.size w (W1.setCell ⟨g, k, none⟩ (.int .u8 ((x ^^^ 1 : Nat) : Int))).drew from (hb2.setCell (by show w.heap.size ≤ g; have := hb.size; omega) _).drew)
      clear hj hb hb2
      go_region
      clear hji hxr
      go_wp2_with fail
      refine (crc_any _ _ hmf).mono ?_
      rintro e w5 ⟨rfl, rfl⟩
      have hfin : (((crcV (ByteArray.mk (turned s.data.toList k 0).toArray).data.toList : Nat) : Int) != (C : Int)) = true := by
        rw [bne_iff_ne]
        intro h
        have h2 := Int.ofNat.inj h
        rw [← HC.out] at h2
        exact hne.out h2
      go_wp2_with fail
      go_ret
      exact ⟨rfl, HB.out⟩
    · have hji : ((n' : Int) % 8) = 1 := by omega
      have hxr : bits .xor .u8 (x : Int) 2 = ((x ^^^ 2 : Nat) : Int) := u8_xor_nat x 2 hx8 (by decide)
      have hcv2 := flip_conv (cap := grownCap w1 s.size 0 5) hks HX.out (show 2 = 2 ^ 1 by decide) (by decide) hcl.out
      have hne := Lib.hid (crc_flip HS.out hks (show 1 < 8 by decide))
      have hmf : (ByteArray.mk (turned s.data.toList k 1).toArray).size ≤ maxLen := by
        have : (ByteArray.mk (turned s.data.toList k 1).toArray).size = s.size := by unfold turned; show (List.toArray _).size = _; simp
        rw [this]; exact hml
      have HB := Lib.hid (show Below w.heap.size w (W1.setCell ⟨g, k, none⟩ (.int .u8 ((x ^^^ 2 : Nat) : Int))).drew from (hb2.setCell (by show w.heap.size ≤ g; have := hb.size; omega) _).drew)
      clear hj hb hb2
      go_region
      clear hji hxr
      go_wp2_with fail
      refine (crc_any _ _ hmf).mono ?_
      rintro e w5 ⟨rfl, rfl⟩
      have hfin : (((crcV (ByteArray.mk (turned s.data.toList k 1).toArray).data.toList : Nat) : Int) != (C : Int)) = true := by
        rw [bne_iff_ne]
        intro h
        have h2 := Int.ofNat.inj h
        rw [← HC.out] at h2
        exact hne.out h2
      go_wp2_with fail
      go_ret
      exact ⟨rfl, HB.out⟩
    · have hji : ((n' : Int) % 8) = 2 := by omega
      have hxr : bits .xor .u8 (x : Int) 4 = ((x ^^^ 4 : Nat) : Int) := u8_xor_nat x 4 hx8 (by decide)
      have hcv2 := flip_conv (cap := grownCap w1 s.size 0 5) hks HX.out (show 4 = 2 ^ 2 by decide) (by decide) hcl.out
      have hne := Lib.hid (crc_flip HS.out hks (show 2 < 8 by decide))
      have hmf : (ByteArray.mk (turned s.data.toList k 2).toArray).size ≤ maxLen := by
        have : (ByteArray.mk (turned s.data.toList k 2).toArray).size = s.size := by unfold turned; show (List.toArray _).size = _; simp
        rw [this]; exact hml
      have HB := Lib.hid (show Below w.heap.size w (W1.setCell ⟨g, k, none⟩ (.int .u8 ((x ^^^ 4 : Nat) : Int))).drew from (hb2.setCell (by show w.heap.size ≤ g; have := hb.size; omega) _).drew)
      clear hj hb hb2
      go_region
      clear hji hxr
      go_wp2_with fail
      refine (crc_any _ _ hmf).mono ?_
      rintro e w5 ⟨rfl, rfl⟩
      have hfin : (((crcV (ByteArray.mk (turned s.data.toList k 2).toArray).data.toList : Nat) : Int) != (C : Int)) = true := by
        rw [bne_iff_ne]
        intro h
        have h2 := Int.ofNat.inj h
        rw [← HC.out] at h2
        exact hne.out h2
      go_wp2_with fail
      go_ret
      exact ⟨rfl, HB.out⟩
    · have hji : ((n' : Int) % 8) = 3 := by omega
      have hxr : bits .xor .u8 (x : Int) 8 = ((x ^^^ 8 : Nat) : Int) := u8_xor_nat x 8 hx8 (by decide)
      have hcv2 := flip_conv (cap := grownCap w1 s.size 0 5) hks HX.out (show 8 = 2 ^ 3 by decide) (by decide) hcl.out
      have hne := Lib.hid (crc_flip HS.out hks (show 3 < 8 by decide))
      have hmf : (ByteArray.mk (turned s.data.toList k 3).toArray).size ≤ maxLen := by
        have : (ByteArray.mk (turned s.data.toList k 3).toArray).size = s.size := by unfold turned; show (List.toArray _).size = _; simp
        rw [this]; exact hml
      have HB := Lib.hid (show Below w.heap.size w (W1.setCell ⟨g, k, none⟩ (.int .u8 ((x ^^^ 8 : Nat) : Int))).drew from (hb2.setCell (by show w.heap.size ≤ g; have := hb.size; omega) _).drew)
      clear hj hb hb2
      go_region
      clear hji hxr
      go_wp2_with fail
      refine (crc_any _ _ hmf).mono ?_
      rintro e w5 ⟨rfl, rfl⟩
      have hfin : (((crcV (ByteArray.mk (turned s.data.toList k 3).toArray).data.toList : Nat) : Int) != (C : Int)) = true := by
        rw [bne_iff_ne]
        intro h
        have h2 := Int.ofNat.inj h
        rw [← HC.out] at h2
        exact hne.out h2
      go_wp2_with fail
      go_ret
      exact ⟨rfl, HB.out⟩
    · have hji : ((n' : Int) % 8) = 4 := by omega
      have hxr : bits .xor .u8 (x : Int) 16 = ((x ^^^ 16 : Nat) : Int) := u8_xor_nat x 16 hx8 (by decide)
      have hcv2 := flip_conv (cap := grownCap w1 s.size 0 5) hks HX.out (show 16 = 2 ^ 4 by decide) (by decide) hcl.out
      have hne := Lib.hid (crc_flip HS.out hks (show 4 < 8 by decide))
      have hmf : (ByteArray.mk (turned s.data.toList k 4).toArray).size ≤ maxLen := by
        have : (ByteArray.mk (turned s.data.toList k 4).toArray).size = s.size := by unfold turned; show (List.toArray _).size = _; simp
        rw [this]; exact hml
      have HB := Lib.hid (show Below w.heap.size w (W1.setCell ⟨g, k, none⟩ (.int .u8 ((x ^^^ 16 : Nat) : Int))).drew from (hb2.setCell (by show w.heap.size ≤ g; have := hb.size; omega) _).drew)
      clear hj hb hb2
      go_region
      clear hji hxr
      go_wp2_with fail
      refine (crc_any _ _ hmf).mono ?_
      rintro e w5 ⟨rfl, rfl⟩
      have hfin : (((crcV (ByteArray.mk (turned s.data.toList k 4).toArray).data.toList : Nat) : Int) != (C : Int)) = true := by
        rw [bne_iff_ne]
        intro h
        have h2 := Int.ofNat.inj h
        rw [← HC.out] at h2
        exact hne.out h2
      go_wp2_with fail
      go_ret
      exact ⟨rfl, HB.out⟩
    · have hji : ((n' : Int) % 8) = 5 := by omega
      have hxr : bits .xor .u8 (x : Int) 32 = ((x ^^^ 32 : Nat) : Int) := u8_xor_nat x 32 hx8 (by decide)
      have hcv2 := flip_conv (cap := grownCap w1 s.size 0 5) hks HX.out (show 32 = 2 ^ 5 by decide) (by decide) hcl.out
      have hne := Lib.hid (crc_flip HS.out hks (show 5 < 8 by decide))
      have hmf : (ByteArray.mk (turned s.data.toList k 5).toArray).size ≤ maxLen := by
        have : (ByteArray.mk (turned s.data.toList k 5).toArray).size = s.size := by unfold turned; show (List.toArray _).size = _; simp
        rw [this]; exact hml
      have HB := Lib.hid (show Below w.heap.size w (W1.setCell ⟨g, k, none⟩ (.int .u8 ((x ^^^ 32 : Nat) : Int))).drew from (hb2.setCell (by show w.heap.size ≤ g; have := hb.size; omega) _).drew)
      clear hj hb hb2
      go_region
      clear hji hxr
      go_wp2_with fail
      refine (crc_any _ _ hmf).mono ?_
      rintro e w5 ⟨rfl, rfl⟩
      have hfin : (((crcV (ByteArray.mk (turned s.data.toList k 5).toArray).data.toList : Nat) : Int) != (C : Int)) = true := by
        rw [bne_iff_ne]
        intro h
        have h2 := Int.ofNat.inj h
        rw [← HC.out] at h2
        exact hne.out h2
      go_wp2_with fail
      go_ret
      exact ⟨rfl, HB.out⟩
    · have hji : ((n' : Int) % 8) = 6 := by omega
      have hxr : bits .xor .u8 (x : Int) 64 = ((x ^^^ 64 : Nat) : Int) := u8_xor_nat x 64 hx8 (by decide)
      have hcv2 := flip_conv (cap := grownCap w1 s.size 0 5) hks HX.out (show 64 = 2 ^ 6 by decide) (by decide) hcl.out
      have hne := Lib.hid (crc_flip HS.out hks (show 6 < 8 by decide))
      have hmf : (ByteArray.mk (turned s.data.toList k 6).toArray).size ≤ maxLen := by
        have : (ByteArray.mk (turned s.data.toList k 6).toArray).size = s.size := by unfold turned; show (List.toArray _).size = _; simp
        rw [this]; exact hml
      have HB := Lib.hid (show Below w.heap.size w (W1.setCell ⟨g, k, none⟩ (.int .u8 ((x ^^^ 64 : Nat) : Int))).drew from (hb2.setCell (by show w.heap.size ≤ g; have := hb.size; omega) _).drew)
      clear hj hb hb2
      go_region
      clear hji hxr
      go_wp2_with fail
      refine (crc_any _ _ hmf).mono ?_
      rintro e w5 ⟨rfl, rfl⟩
      have hfin : (((crcV (ByteArray.mk (turned s.data.toList k 6).toArray).data.toList : Nat) : Int) != (C : Int)) = true := by
        rw [bne_iff_ne]
        intro h
        have h2 := Int.ofNat.inj h
        rw [← HC.out] at h2
        exact hne.out h2
      go_wp2_with fail
      go_ret
      exact ⟨rfl, HB.out⟩
    · have hji : ((n' : Int) % 8) = 7 := by omega
      have hxr : bits .xor .u8 (x : Int) 128 = ((x ^^^ 128 : Nat) : Int) := u8_xor_nat x 128 hx8 (by decide)
      have hcv2 := flip_conv (cap := grownCap w1 s.size 0 5) hks HX.out (show 128 = 2 ^ 7 by decide) (by decide) hcl.out
      have hne := Lib.hid (crc_flip HS.out hks (show 7 < 8 by decide))
      have hmf : (ByteArray.mk (turned s.data.toList k 7).toArray).size ≤ maxLen := by
        have : (ByteArray.mk (turned s.data.toList k 7).toArray).size = s.size := by unfold turned; show (List.toArray _).size = _; simp
        rw [this]; exact hml
      have HB := Lib.hid (show Below w.heap.size w (W1.setCell ⟨g, k, none⟩ (.int .u8 ((x ^^^ 128 : Nat) : Int))).drew from (hb2.setCell (by show w.heap.size ≤ g; have := hb.size; omega) _).drew)
      clear hj hb hb2
      go_region
      clear hji hxr
      go_wp2_with fail
      refine (crc_any _ _ hmf).mono ?_
      rintro e w5 ⟨rfl, rfl⟩
      have hfin : (((crcV (ByteArray.mk (turned s.data.toList k 7).toArray).data.toList : Nat) : Int) != (C : Int)) = true := by
        rw [bne_iff_ne]
        intro h
        have h2 := Int.ofNat.inj h
        rw [← HC.out] at h2
        exact hne.out h2
      go_wp2_with fail
      go_ret
      exact ⟨rfl, HB.out⟩
end Go.Proofs.Ytmfcgikfgikbfaa.Laws
