/- Men sorted by the program; the position behind a move. -/
import Derived.Test.YtcgfklljbblhlaaGreatDoorSl
import Derived.Test.YtcgfklljbblhlaaGreatDoorCm
import Derived.Test.YtcgfklljbblhlaaGreatDoorMc
import Derived.Test.YtcgfklljbblhlaaGreatDoorDoM
import Derived.Maps.AppendAt
namespace Go.Proofs.YtcgfklljbblhlaaGreatDoor.Ko
open Go.ChangeShapes Go.WideShapes Go.ChangeAt Go.RowKit Base Sq Go.Sort
set_option linter.unusedVariables false
set_option maxRecDepth 20000
attribute [local irreducible] wpQuiet

instance : Inhabited St := ⟨⟨0, 0, 0⟩⟩
def encM (s : St) : List Value := [.int .i64 s.dx, .int .i64 s.dy, .int .i64 s.far]
def cmpM (x y : St) : Int := cmpV x.far y.far
theorem ltM (x y : St) : ltOf cmpM x y = decide (x.far < y.far) := by
  unfold ltOf cmpM cmpV
  by_cases h1 : x.far < y.far
  · simp [h1]
  · by_cases h2 : y.far < x.far <;> simp [h1, h2]
theorem swoM : SWO (ltOf cmpM) where
  irrefl x := by rw [ltM]; simp
  trans x y z h1 h2 := by rw [ltM] at *; simp at *; omega
  ntrans x y z h1 h2 := by rw [ltM] at *; simp at *; omega

theorem sortClo (x y : St) (W : World) : Calls Tryz.prog 128 #[.agg #[.int .i64 x.dx, .int .i64 x.dy, .int .i64 x.far], .agg #[.int .i64 y.dx, .int .i64 y.dy, .int .i64 y.far]] W fun e w' => e = .returned (.int .i64 (cmpM x y)) ∧ ∃ q os', w' = grow (W.drewN q) os' := by
  go_enter Tryz.func128, Tryz.ntmps128
  go_wp2_with fail
  refine (cmp_any _ _ _).mono ?_
  rintro e w' ⟨rfl, rfl⟩
  go_wp2_with fail
  go_ret
  exact ⟨rfl, 0, _, by rw [alloc_eq_grow, alloc_eq_grow, grow_grow]; rfl⟩
theorem sortLays (blk off size : Nat) (w : World) : CmpLays Tryz.prog 128 #[] encM 3 cmpM blk off size w :=
  fun _ _ _ _ x y => sortClo x y _
theorem bitsLen_any (n : Nat) (W : World) (h : n ≤ 12) : Calls Tryz.prog 134 #[.int .u64 n] W fun e w' => (∃ l : Int, e = .returned (.int .i64 l)) ∧ w' = W :=
  (Any.bits_Len (SlLaysF0.n15.bits (P := Tryz.prog) (ρ := Sl.sortMenL_ren) { Sl.sortMenL with }) n W (by omega) (by omega)).mono fun _ _ ⟨he, hw⟩ => ⟨⟨_, he⟩, hw⟩

theorem getM {l : List St} {i : Nat} (h : i < l.length) : l.toArray[i]! = stAt l i := by
  rw [getElem!_pos _ i (by simpa using h), stAt_lt h]; simp
theorem holdsM {w : World} {b : Nat} {cs : Array Value} {T : TypeId} {l : List St} (h : Blk w b cs T) (hi : StepsIn cs l l.length) : HoldsK encM 3 w b 0 l.toArray := fun j hj => by
  rw [size_flatK] at hj
  have hj' : j < l.length * 3 := by simpa using hj
  refine ⟨?_, by rw [Nat.zero_add]; exact h.free j⟩
  rw [Nat.zero_add, h.cell, get_flatK _ _ _ _ hj, getM (show j / 3 < l.length by omega)]
  obtain ⟨h1, h2, h3⟩ := hi (j / 3) (by omega)
  rcases (show j % 3 = 0 ∨ j % 3 = 1 ∨ j % 3 = 2 by omega) with hm | hm | hm
  · rw [hm]; rw [show j / 3 * 3 = j by omega] at h1; exact h1
  · rw [hm]; rw [show j / 3 * 3 + 1 = j by omega] at h2; exact h2
  · rw [hm]; rw [show j / 3 * 3 + 2 = j by omega] at h3; exact h3
theorem blk_sorted {w : World} {b : Nat} {cs : Array Value} {T : TypeId} (h : Blk w b cs T) (n : Nat) (d : Array St) (os : Array Obj) :
    ∃ cs', Blk (sortWorldK encM 3 w b 0 n d os) b cs' T ∧ cs'.size = cs.size := by
  refine ⟨putCells id 0 (flatK encM 3 d) cs, ?_, by simp [putCells]⟩
  have hlt := h.lt
  unfold Blk at *
  unfold sortWorldK putRowK putRow
  rw [heap_grow_old _ _ (by simpa [mapBlock] using hlt)]
  show (w.heap.modify b _)[b]? = _
  rw [Array.getElem?_modify, if_pos rfl, h]
  rfl
theorem below_sorted {w : World} {b B : Nat} (hB : B ≤ b) (hb : b < w.heap.size) (n : Nat) (d : Array St) (os : Array Obj) : Below B w (sortWorldK encM 3 w b 0 n d os) := by
  refine ⟨rfl, rfl, rfl, size_sortWorldK_c encM 3 w b 0 n d os, fun k hk => ?_⟩
  unfold sortWorldK putRowK putRow
  rw [heap_grow_old _ _ (by simp [mapBlock]; omega)]
  show (w.heap.modify b _)[k]? = _
  rw [Array.getElem?_modify, if_neg (by omega)]
theorem sortMen_any (b c : Nat) (l : List St) (cs : Array Value) (w : World) (hb : Blk w b cs 105) (hl : l.length ≤ 12) (hin : StepsIn cs l l.length) :
    Calls Tryz.prog 110 #[.slice (some ⟨b, 0, none⟩) l.length c] w fun e w' => e = .returned (.tuple #[]) ∧ ∃ (l' : List St) (cs' : Array Value), l'.Perm l ∧ l'.Pairwise (fun x y => x.far ≤ y.far) ∧ Blk w' b cs' 105 ∧ cs'.size = cs.size ∧ StepsIn cs' l' l.length ∧ ∀ B, B ≤ b → Below B w w' := by
  have eg : ∀ args w, (callFunc 128 args).run Tryz.prog w = .ok (.enter 128 args) w := enters_of Tryz.func128 (by kernel_rfl) rfl
  have hcon := AnyQ.slices_SortFunc_small_sorted Sl.sortMenL 3 Tryz.isAgg105 Tryz.sizeOf105 encM (fun _ => rfl) (fun x v hv => by simp [encM] at hv; rcases hv with rfl | rfl | rfl <;> rfl) cmpM 128 #[] swoM b 0 c l.toArray w eg (sortLays b 0 l.toArray.size w) (holdsM hb hin) hb.lt (by simpa using hl) bitsLen_any
  change Calls Tryz.prog 127 _ _ _ at hcon
  have hcon2 : Calls Tryz.prog 127 #[.slice (some ⟨b, 0, none⟩) l.length c, .func (.func 128) #[] #[]] w fun e w' => e = .returned (.tuple #[]) ∧ ∃ (l' : List St) (cs' : Array Value), l'.Perm l ∧ l'.Pairwise (fun x y => x.far ≤ y.far) ∧ Blk w' b cs' 105 ∧ cs'.size = cs.size ∧ StepsIn cs' l' l.length ∧ ∀ B, B ≤ b → Below B w w' := by
    rw [show (l.toArray.size : Nat) = l.length from by simp] at hcon
    refine hcon.mono ?_
    rintro e w' ⟨rfl, d', n, os, hp, hs, rfl⟩
    have hsz : d'.size = l.length := by simpa using hp.1
    obtain ⟨cs', hb', hs'⟩ := blk_sorted hb n d' os
    have hH := holdsK_sortWorldK_c encM 3 w b 0 l.toArray d' n os (holdsM hb hin) hb.lt (by simpa using hsz)
    refine ⟨rfl, d'.toList, cs', ?_, ?_, hb', hs', fun i hi => ?_, fun B hB => below_sorted hB hb.lt n d' os⟩
    · have h3 := hp.2.2
      have e1 : d'.extract 0 l.length = d' := by rw [← hsz]; simp
      have e2 : l.toArray.extract 0 l.length = l.toArray := by
        have : l.length = l.toArray.size := by simp
        rw [this]; simp
      rw [e1, e2] at h3
      simpa using h3
    · refine List.pairwise_iff_getElem.2 (fun i j hi hj hij => ?_)
      have hj' : j < l.length := by rw [← hsz]; simpa using hj
      have h := hs i j (Nat.zero_le _) hij hj'
      rw [ltM, getElem!_pos _ i (by omega), getElem!_pos _ j (by omega)] at h
      have := of_decide_eq_false h
      simp only [Array.getElem_toList]
      omega
    · have hi' : i < d'.size := by omega
      have e : stAt d'.toList i = d'[i]! := by rw [stAt_lt (by simpa using hi'), getElem!_pos _ i hi']; simp
      rw [e]
      have g0 := (hH.cell hi' (show 0 < 3 by omega)).1
      have g1 := (hH.cell hi' (show 1 < 3 by omega)).1
      have g2 := (hH.cell hi' (show 2 < 3 by omega)).1
      rw [hb'.cell, Nat.zero_add] at g0 g1 g2
      exact ⟨g0, g1, g2⟩
  clear hcon hin
  go_enter Tryz.func110, Tryz.ntmps110
  go_wp2_with fail
  refine hcon2.mono ?_
  rintro e w' ⟨rfl, hrest⟩
  go_wp2_with fail
  go_end0
  exact ⟨rfl, hrest⟩
end Go.Proofs.YtcgfklljbblhlaaGreatDoor.Ko
