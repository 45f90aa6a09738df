/- The order of pieces: cmp.Or of two numbers, Piece.before. -/
import Derived.Test.YtnjhcjjeehccbaaGreatDoorPr
import Derived.Test.YtnjhcjjeehccbaaGreatDoorCm
import Derived.Deep.RegionHeld3
namespace Go.Proofs.YtnjhcjjeehccbaaGreatDoor.Ko
open Go.ChangeShapes Go.WideShapes Go.ChangeAt Go.RowKit Base Sq
set_option linter.unusedVariables false
set_option maxRecDepth 20000
attribute [local irreducible] wpQuiet

def orV (x y : Int) : Int := if x = 0 then y else x
theorem or2_any (g c : Nat) (x y : Int) (w : World) (h0 : w.cell? ⟨g, 0, none⟩ = some (.int .i64 x)) (h1 : w.cell? ⟨g, 1, none⟩ = some (.int .i64 y)) :
    Calls Tryz.prog 213 #[.slice (some ⟨g, 0, none⟩) 2 c] w fun e w' => e = .returned (.int .i64 (orV x y)) ∧ w = w' := by
  go_enter Tryz.func213, Tryz.ntmps213
  go_wp2_with fail
  go_loopw [8] (fun i wr => ∃ k : Nat, k ≤ 2 ∧ i = .int .i64 k ∧ wr = w ∧ (0 < k → x = 0) ∧ (1 < k → y = 0)) (fun i _ => 2 - (intOf i).toNat)
  case atStart => exact ⟨0, by omega, rfl, rfl, (fun h => by omega), (fun h => by omega)⟩
  case round =>
    obtain ⟨k, hk, rfl, rfl, hx, hy⟩ := hrel
    obtain rfl | rfl | rfl : k = 0 ∨ k = 1 ∨ k = 2 := by omega
    · by_cases hz : x = 0
      · subst hz
        go_wp2_with fail
        go_roundw
        case rel => refine ⟨1, by omega, by go_num, ?_⟩; simp
        case measure => simp [intOf]
      · go_wp2_with fail
        go_ret
        exact ⟨by rw [show orV x y = x from if_neg hz]; rfl, rfl⟩
    · obtain rfl := hx (by omega)
      by_cases hz : y = 0
      · subst hz
        go_wp2_with fail
        go_roundw
        case rel => refine ⟨2, by omega, by go_num, ?_⟩; simp
        case measure => simp [intOf]
      · go_wp2_with fail
        go_ret
        exact ⟨by rw [show orV 0 y = y from if_pos rfl]; rfl, rfl⟩
    · have hx0 := hx (by omega)
      have hy0 := hy (by omega)
      subst hx0
      subst hy0
      go_wp2_with fail
      go_ret
      exact ⟨rfl, rfl⟩

def pcLess (a b : Pc) : Bool := decide (a.kd < b.kd) || (decide (a.kd = b.kd) && decide (a.ow < b.ow))
theorem pcLess_or (a b : Pc) : decide (orV (cmpV a.kd b.kd) (cmpV a.ow b.ow) < 0) = pcLess a b := by
  unfold orV cmpV pcLess
  by_cases h1 : a.kd < b.kd
  · simp [h1]
  · by_cases h2 : b.kd < a.kd
    · have : ¬ a.kd = b.kd := by omega
      simp [h1, h2, this]
    · have h3 : a.kd = b.kd := by omega
      by_cases h4 : a.ow < b.ow
      · simp [h3, h4]
      · by_cases h5 : b.ow < a.ow <;> simp [h3, h4, h5]

set_option maxHeartbeats 2000000 in
theorem pbefore_any (k o k' o' : Int) (w : World) :
    Calls Tryz.prog 201 #[.agg #[.int .i64 k, .int .i64 o], .agg #[.int .i64 k', .int .i64 o']] w fun e w' => e = .returned (.bool (pcLess ⟨k, o⟩ ⟨k', o'⟩)) ∧ Below w.heap.size w w' := by
  have hv := pcLess_or ⟨k, o⟩ ⟨k', o'⟩
  have HV := Lib.hid hv
  clear hv
  go_enter Tryz.func201, Tryz.ntmps201
  go_wp2_with fail
  have p1 := (Blk.new w #[.int .i64 k, .int .i64 o] 128).alloc (.cells #[.int .i64 k', .int .i64 o'] 128)
  have p2 := Blk.new (w.alloc (.cells #[.int .i64 k, .int .i64 o] 128)) #[.int .i64 k', .int .i64 o'] 128
  simp only [World.size_alloc] at p2
  have hbe : Below w.heap.size w ((w.alloc (.cells #[.int .i64 k, .int .i64 o] 128)).alloc (.cells #[.int .i64 k', .int .i64 o'] 128)) := (by repeat (first | exact Below.refl _ _ | assumption | (refine Below.alloc ?_ (by first | omega | (simp; done) | (simp; omega)) _) | (refine Below.setCell ?_ (by first | omega | (simp; done) | (simp; omega)) _) | refine Below.drew ?_))
  generalize hW : (w.alloc (.cells #[.int .i64 k, .int .i64 o] 128)).alloc (.cells #[.int .i64 k', .int .i64 o'] 128) = W at *
  clear hW
  have HS : Hid (∀ w', Below W.heap.size W w' → (w'.cell? ⟨w.heap.size, 0, none⟩ = some (.int .i64 k) ∧ w'.cell? ⟨w.heap.size, 1, none⟩ = some (.int .i64 o) ∧ w'.cell? ⟨w.heap.size + 1, 0, none⟩ = some (.int .i64 k') ∧ w'.cell? ⟨w.heap.size + 1, 1, none⟩ = some (.int .i64 o'))) := Lib.hid (fun w' hb => by
    obtain ⟨⟨a0, a1⟩, _⟩ := (p1.below hb p1.lt).at2
    obtain ⟨⟨b0, b1⟩, _⟩ := (p2.below hb p2.lt).at2
    exact ⟨a0, a1, b0, b1⟩)
  have hw : Below W.heap.size W W.drew := (Below.refl _ _).drew
  have hz := hbe.size
  clear p1 p2
  go_region_held3 (fun w' => w'.cell? ⟨w.heap.size, 0, none⟩ = some (.int .i64 k) ∧ w'.cell? ⟨w.heap.size, 1, none⟩ = some (.int .i64 o) ∧ w'.cell? ⟨w.heap.size + 1, 0, none⟩ = some (.int .i64 k') ∧ w'.cell? ⟨w.heap.size + 1, 1, none⟩ = some (.int .i64 o'))
    (first
      | exact HS.out _ hw
      | exact HS.out _ (hw.alloc hw.size _))
    (first
      | (go_at_call 207; refine (cmp_any _ _ _).mono ?_; rintro e w' ⟨rfl, rfl⟩)
      | (go_at_call 213; refine (or2_any _ _ (cmpV k k') (cmpV o o') _ (by first | (simp; done) | exact (Blk.new W.drew #[.int .i64 (cmpV k k'), .int .i64 (cmpV o o')] 3).at2.1.1) (by first | (simp; done) | exact (Blk.new W.drew #[.int .i64 (cmpV k k'), .int .i64 (cmpV o o')] 3).at2.1.2)).mono ?_; rintro e w' ⟨rfl, rfl⟩))
  all_goals
    go_wp2_with fail
    go_ret
    exact ⟨rb HV.out, hbe.trans (((Below.refl _ _).drew.alloc (Nat.le_refl _) _).mono hz)⟩
end Go.Proofs.YtnjhcjjeehccbaaGreatDoor.Ko
