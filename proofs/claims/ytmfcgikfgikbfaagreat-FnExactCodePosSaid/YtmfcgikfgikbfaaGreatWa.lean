/- The digits of a code: digitsOf of the program. -/
import Derived.Test.YtmfcgikfgikbfaaGreatRa
import Derived.Test.YtmfcgikfgikbfaaGreatIn
namespace Go.Proofs.YtmfcgikfgikbfaaGreat.Ko
open Go.ChangeShapes Go.WideShapes Go.ChangeAt Go.RowKit Base Sq In
set_option linter.unusedVariables false
set_option maxRecDepth 20000
attribute [local irreducible] wpQuiet

/-- the digits of a code: who is to move, and where each piece is -/
def digL (b code : Int) (n : Nat) : List Int := remK b code n :: (List.range n).map (digC b code n)
theorem digL_len (b code : Int) (n : Nat) : (digL b code n).length = n + 1 := by simp [digL]
theorem digL_zero (b code : Int) (n : Nat) : iAt (digL b code n) 0 = remK b code n := rfl
theorem digL_succ {b code : Int} {n i : Nat} (h : i < n) : iAt (digL b code n) (i + 1) = digC b code n i := by
  unfold iAt digL; simp [List.getD_eq_getElem?_getD, h]
/-- the digit that the j-th round writes -/
theorem digL_at {b code : Int} {n j : Nat} (hj : j ≤ n) (hr : j = n → 0 ≤ remK b code n ∧ remK b code n < 2) : iAt (digL b code n) (n - j) = remK b code j % (if j = n then 2 else b) := by
  by_cases h : j = n
  · subst h
    rw [if_pos rfl, Nat.sub_self, digL_zero]
    have := hr rfl
    omega
  · rw [if_neg h, show n - j = (n - 1 - j) + 1 by omega, digL_succ (by omega), digC_rem (by omega)]

set_option maxHeartbeats 4000000 in
theorem digitsOf_any (side code : Int) (n : Nat) (D : Option Addr) (d : Nat) (w : World) (hD : IsInts w w.heap.size D (basesV side n)) (hs : side = 2 ∨ side = 3 ∨ side = 4) (hn : n ≤ 4) (h0 : 0 ≤ code) (h1 : code < numV side n) :
    Calls Tryz.prog 60 #[.int .i64 code, .slice D (n + 1) d] w fun e w' => ∃ g c', e = .returned (.slice (some ⟨g, 0, none⟩) (n + 1) c') ∧ w.heap.size ≤ g ∧ g < w'.heap.size ∧ IsInts w' w'.heap.size (some ⟨g, 0, none⟩) (digL (side * side + 1) code n) ∧ Below w.heap.size w w' := by
  obtain ⟨i0, hi, hz0, hz1, hz2⟩ := info_parts infoInt
  have HR := Lib.hid (remK_bd hs h0 h1)
  have HNV := Lib.hid (fun k (hk : k ≤ 4) => numV_bd hs (k := k) hk)
  have hbb : 5 ≤ side * side + 1 ∧ side * side + 1 ≤ 17 := by rcases hs with rfl | rfl | rfl <;> omega
  obtain ⟨bd, rfl, hBd, hcd⟩ := hD (by rw [bases_len]; omega)
  have HC := Lib.hid hcd
  have HDL := Lib.hid (fun j (hj : j ≤ n) => digL_at (b := side * side + 1) (code := code) hj (fun _ => by
    have := HR.out n (Nat.le_refl _); rw [Nat.sub_self] at this; exact this))
  have HB0 := Lib.hid (fun (i : Nat) (h : i < n) => bases_succ (side := side) h)
  have HR2 := Lib.hid (fun j => show remK (side * side + 1) code (j + 1) = remK (side * side + 1) code j / (side * side + 1) from rfl)
  have HLN := Lib.hid (digL_len (side * side + 1) code n)
  obtain ⟨b, hb⟩ : ∃ b, b = side * side + 1 := ⟨_, rfl⟩
  rw [← hb] at hbb
  have HBB := Lib.hid hb
  obtain ⟨hb1, hb2⟩ := hbb
  have hbz : (b == 0) = false := by simp; omega
  clear hD hcd h0 h1 hb hs
  go_enter Tryz.func60, Tryz.ntmps60
  go_wp2_with (at_make; refine wpList_make_full _ rfl _ _ _ rfl w.heap.size 3 i0 (.int .i64 0) 1 Tryz.underlying62 hi hz0 hz1 .i64 .i64 _ _ (n + 1) (by rfl) (by rfl) rfl rfl (by rw [hz2]; omega) (by unfold maxLen; omega) (Nat.le_refl _) ?_; intro w1 hown hgrow)
  obtain ⟨cur, hblk, hsz⟩ := blk_of_own hown
  have hbe := below_of_grown hgrow (Nat.le_refl _)
  clear hown hgrow hi hz0 hz1 hz2
  have HS := Lib.hid hsz
  clear hsz
  have HZ := Lib.hid (fun k (hk : k ≤ n) => And.intro (HR.out k hk).1 (Int.le_trans (Int.le_of_lt (HR.out k hk).2) (HNV.out (n - k) (by omega)).2))
  have hx0 : 0 ≤ code ∧ code ≤ 167042 := HZ.out 0 (by omega)
  go_loopw [0, 6] (fun x i wr => ∃ (q : Nat) (X : Int) (cs : Array Value), q ≤ n + 1 ∧ i = .int .i64 ((q : Int) - 1) ∧ x = .int .i64 X ∧ Hid (0 < q → X = remK (side * side + 1) code (n + 1 - q)) ∧ 0 ≤ X ∧ X ≤ 167042 ∧ cs.size = (n + 1) * 1 ∧ Hid (∀ p, q ≤ p → p ≤ n → cs[p]? = some (.int .i64 (iAt (digL (side * side + 1) code n) p))) ∧
    Blk wr w.heap.size cs 3 ∧ Below w.heap.size w wr) (fun _ i _ => (intOf i + 1).toNat)
  case atStart => exact ⟨n + 1, code, cur, by omega, by go_num, rfl, Lib.hid (fun _ => by rw [Nat.sub_self]; rfl), hx0.1, hx0.2, HS.out, Lib.hid (fun p h1 h2 => absurd h1 (by omega)), hblk, hbe⟩
  case round =>
    clear hblk hbe HS hx0
    obtain ⟨q, X, cs, hq, rfl, rfl, hX, hX0, hX1, hsz, hin, hb, hbe⟩ := hrel
    have HS := Lib.hid hsz
    rcases Nat.eq_zero_or_pos q with rfl | hq0
    · have hlt : (((0 : Nat) : Int) - 1) < 0 := by omega
      clear hsz
      go_wp2_with fail
      go_ret
      refine ⟨w.heap.size, n + 1, rfl, Nat.le_refl _, hb.lt, fun _ => ⟨w.heap.size, rfl, hb.lt, fun p hp => ?_⟩, hbe⟩
      rw [HLN.out] at hp
      exact (hb.cell p).trans (hin.out p (by omega) (by omega))
    · obtain ⟨p, rfl⟩ : ∃ p, q = p + 1 := ⟨q - 1, by omega⟩
      rw [show (((p + 1 : Nat) : Int) - 1) = (p : Int) by omega]
      have HX := Lib.hid (hX.out hq0)
      rw [show n + 1 - (p + 1) = n - p by omega] at HX
      clear hX hq0
      obtain ⟨o0, x0⟩ := old_cell (cs := cs) (i := p) (by omega)
      have y0 := (hb.cell p).trans x0
      have f0 := hb.free p
      have z1 := hb.lt
      have hc0 := (hbe.cell (p := ⟨bd, p, none⟩) hBd).trans (HC.out p (by rw [bases_len]; omega))
      have hpn : (p : Int) < (n : Int) + 1 := by omega
      clear hsz x0
      by_cases hp0 : p = 0
      · subst hp0
        have hc1 : wr.cell? ⟨bd, 0, none⟩ = some (.int .i64 2) := hc0
        have HD : Hid (iAt (digL (side * side + 1) code n) 0 = X % 2) := Lib.hid (by
          have := HDL.out n (Nat.le_refl _)
          rw [Nat.sub_self, if_pos rfl] at this
          rw [this, HX.out, Nat.sub_zero])
        clear hc0
        go_wp2_with fail
        go_roundw
        case rel => exact ⟨0, X / 2, _, by omega, by go_num, rfl, Lib.hid (fun h => absurd h (by omega)), by omega, by omega, by simp only [Array.size_setIfInBounds]; exact HS.out, Lib.hid (fun p' h1 h2 => by
          rcases Nat.eq_zero_or_pos p' with rfl | h3
          · rw [HD.out]; exact set_same (by have := HS.out; omega)
          · exact set_get (hin.out p' h3 h2) (by omega)), hb.set _ _, hbe.setCell (by simp) _⟩
        case measure => simp [intOf]
      · have hc1 : wr.cell? ⟨bd, p, none⟩ = some (.int .i64 b) := by
          rw [hc0, show p = (p - 1) + 1 by omega, HB0.out (p - 1) (by omega), HBB.out]
        have HD : Hid (iAt (digL (side * side + 1) code n) p = X % b) := Lib.hid (by
          have := HDL.out (n - p) (by omega)
          rw [show n - (n - p) = p by omega, if_neg (by omega)] at this
          rw [this, HX.out, HBB.out])
        have HX2 : Hid (X / b = remK (side * side + 1) code (n + 1 - p)) := Lib.hid (by
          rw [show n + 1 - p = (n - p) + 1 by omega, HR2.out, ← HX.out, HBB.out])
        have hq2 : 0 ≤ X / b := Int.ediv_nonneg hX0 (by omega)
        have hq3 : X / b ≤ X := Int.ediv_le_self _ hX0
        have HQ := Lib.hid (And.intro hq2 (Int.le_trans hq3 hX1))
        clear hc0 hq2 hq3
        go_wp2_with fail
        go_roundw
        case rel => exact ⟨p, X / b, _, by omega, by go_num, rfl, Lib.hid (fun _ => HX2.out), HQ.out.1, HQ.out.2, by simp only [Array.size_setIfInBounds]; exact HS.out, Lib.hid (fun p' h1 h2 => by
          by_cases h3 : p' = p
          · subst h3; rw [HD.out]; exact set_same (by have := HS.out; omega)
          · exact set_get (hin.out p' (by omega) h2) (by omega)), hb.set _ _, hbe.setCell (by simp) _⟩
        case measure => simp [intOf]
end Go.Proofs.YtmfcgikfgikbfaaGreat.Ko
