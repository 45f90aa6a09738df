/- The ways that a digit allows, by the program: a list of values of an interface. -/
import Derived.Test.YtjanalljaacnoaaKm
namespace Go.Proofs.Ytjanalljaacnoaa.Ko
open Go.ChangeShapes Go.WideShapes Go.ChangeAt Go.RowKit Base Sq In
set_option linter.unusedVariables false
set_option maxRecDepth 20000
attribute [local irreducible] wpQuiet

theorem infoLeave : (Try.prog.info? 73).map (fun i => (i.zero, i.size, i.bytes)) = some (some .nilIface, 1, 16) := by kernel_rfl
/-- an own list of values of one cell each -/
def OwnL (T : TypeId) (w : World) (base : Nat) (v : Value) (vs : List Value) : Prop := w.ownsRow base T 1 v vs.length vs
theorem OwnL.nil (T : TypeId) (w : World) (base : Nat) : OwnL T w base (.slice none 0 0) [] := ⟨rfl, .inl ⟨rfl, rfl⟩⟩
theorem OwnL.is {T : TypeId} {w : World} {base : Nat} {v : Value} {l : List Value} (h : OwnL T w base v l) : ∃ A c, v = .slice A l.length c ∧ (0 < l.length → ∃ b, A = some ⟨b, 0, none⟩ ∧ b < w.heap.size ∧ ∀ i u, l[i]? = some u → w.cell? ⟨b, i, none⟩ = some u) := by
  rcases h.2 with ⟨rfl, h0⟩ | ⟨g, cap, cur, rfl, hb, hg, hn, hm, hs, ht⟩
  · exact ⟨none, 0, by rw [h0], fun hp => by omega⟩
  · refine ⟨some ⟨g, 0, none⟩, cap, rfl, fun _ => ⟨g, rfl, lt_of_block hg, fun i u hu => ?_⟩⟩
    have hi := (List.getElem?_eq_some_iff.1 hu).1
    have hc : w.cell? ⟨g, i, none⟩ = cur[i]? := Blk.cell (w := w) (b := g) (vs := cur) (T := T) hg i
    rw [hc]
    rw [← ht, List.getElem?_take_of_lt (by omega)] at hu
    simpa using hu
theorem app_afterL {T : TypeId} {w w' : World} {base : Nat} {v v' : Value} {l L : List Value} {x : Value} (hO : OwnL T w base v l) (hL : L = l ++ [x]) (hown : w'.ownsRow base T 1 v' (l.length + 1) (l ++ [x])) (hg : (w.alloc (.cells #[x] T)).grownBy w' v.ownBlock) (hs : base ≤ w.heap.size) :
    ∃ B d, v' = .slice B L.length d ∧ OwnL T w' base (.slice B L.length d) L ∧ Below base w w' := by
  subst hL
  have hO' : OwnL T w' base v' (l ++ [x]) := by unfold OwnL; rw [List.length_append]; exact hown
  obtain ⟨B, d, hv, _⟩ := hO'.is
  have hb : Below base (w.alloc (.cells #[x] T)) w' := (Below.refl base _).grown hg (by simp; omega) (fun k hk => by
    rcases hO.2 with ⟨rfl, _⟩ | ⟨g, cap, cur, rfl, hbg, _⟩
    · simp [Value.ownBlock] at hk
    · simp [Value.ownBlock] at hk; omega)
  exact ⟨B, d, hv, hv ▸ hO', ((Below.refl base w).alloc hs _).trans hb⟩
theorem OwnL.below {T : TypeId} {w w' : World} {base : Nat} {v : Value} {l : List Value} (h : OwnL T w base v l) (hb : Below w.heap.size w w') : OwnL T w' base v l := by
  refine ⟨h.1, ?_⟩
  rcases h.2 with h0 | ⟨g, cap, cur, hv, hB, hg, rest⟩
  · exact .inl h0
  · exact .inr ⟨g, cap, cur, hv, hB, (hb.block g (lt_of_block hg)).trans hg, rest⟩
theorem OwnL.kept {T : TypeId} {w w' : World} {base : Nat} {v : Value} {l : List Value} (h : OwnL T w base v l) (hk : ∀ g vs, Blk w g vs T → Blk w' g vs T) : OwnL T w' base v l := by
  refine ⟨h.1, ?_⟩
  rcases h.2 with h0 | ⟨g, cap, cur, hv, hB, hg, rest⟩
  · exact .inl h0
  · exact .inr ⟨g, cap, cur, hv, hB, hk g cur hg, rest⟩
theorem OwnL.cell {T : TypeId} {w : World} {base c : Nat} {A : Option Addr} {l : List Value} (h : OwnL T w base (.slice A l.length c) l) {i : Nat} {u : Value} (hu : l[i]? = some u) : ∃ b, A = some ⟨b, 0, none⟩ ∧ b < w.heap.size ∧ w.cell? ⟨b, i, none⟩ = some u := by
  obtain ⟨A', c', hv, hI⟩ := h.is
  simp only [Value.slice.injEq] at hv
  obtain ⟨rfl, _, rfl⟩ := hv
  have hi := (List.getElem?_eq_some_iff.1 hu).1
  obtain ⟨b, hb, hB, hc⟩ := hI (by omega)
  exact ⟨b, hb, hB, hc i u hu⟩
/-- a way as a value of the interface -/
def wayV (t : Nat) : Value := if t = 0 then .iface 84 (.agg #[]) else if t = 1 then .iface 85 (.agg #[]) else .iface 86 (.agg #[])
/-- the ways of the first k bits of a digit -/
def wayK (d : Int) : Nat → List Nat
  | 0 => []
  | k + 1 => if d.toNat / 2 ^ k % 2 = 1 then wayK d k ++ [k] else wayK d k
def wayL (d : Int) (k : Nat) : List Value := (wayK d k).map wayV
theorem wayL_len (d : Int) (k : Nat) : (wayL d k).length ≤ k := by
  unfold wayL
  rw [List.length_map]
  induction k with
  | zero => exact Nat.le_refl _
  | succ k ih =>
    unfold wayK
    split
    · rw [List.length_append]; exact Nat.add_le_add ih (Nat.le_refl 1)
    · omega
theorem wayL_yes {d : Int} {k : Nat} (h : d.toNat / 2 ^ k % 2 = 1) : wayL d (k + 1) = wayL d k ++ [wayV k] := by
  unfold wayL; rw [show wayK d (k + 1) = wayK d k ++ [k] from if_pos h, List.map_append]; rfl
theorem wayL_no {d : Int} {k : Nat} (h : ¬ d.toNat / 2 ^ k % 2 = 1) : wayL d (k + 1) = wayL d k := by
  unfold wayL; rw [show wayK d (k + 1) = wayK d k from if_neg h]
theorem and1 {d : Int} (h : 0 ≤ d ∧ d ≤ 7) : (bits .and .i64 d 1 != 0) = decide (d.toNat / 2 ^ 0 % 2 = 1) := by
  obtain rfl | rfl | rfl | rfl | rfl | rfl | rfl | rfl : d = 0 ∨ d = 1 ∨ d = 2 ∨ d = 3 ∨ d = 4 ∨ d = 5 ∨ d = 6 ∨ d = 7 := by omega
  all_goals decide
theorem and2 {d : Int} (h : 0 ≤ d ∧ d ≤ 7) : (bits .and .i64 d 2 != 0) = decide (d.toNat / 2 ^ 1 % 2 = 1) := by
  obtain rfl | rfl | rfl | rfl | rfl | rfl | rfl | rfl : d = 0 ∨ d = 1 ∨ d = 2 ∨ d = 3 ∨ d = 4 ∨ d = 5 ∨ d = 6 ∨ d = 7 := by omega
  all_goals decide
theorem and4 {d : Int} (h : 0 ≤ d ∧ d ≤ 7) : (bits .and .i64 d 4 != 0) = decide (d.toNat / 2 ^ 2 % 2 = 1) := by
  obtain rfl | rfl | rfl | rfl | rfl | rfl | rfl | rfl : d = 0 ∨ d = 1 ∨ d = 2 ∨ d = 3 ∨ d = 4 ∨ d = 5 ∨ d = 6 ∨ d = 7 := by omega
  all_goals decide
def WayPost (w w' : World) (d : Int) (e : Ending) : Prop := ∃ A c, e = .returned (.slice A (wayL d 3).length c) ∧ OwnL 73 w' w.heap.size (.slice A (wayL d 3).length c) (wayL d 3) ∧ Below w.heap.size w w'
set_option maxHeartbeats 2000000 in
theorem leavingsOf_any (d : Int) (w : World) (h07 : 0 ≤ d ∧ d ≤ 7) :
    Calls Try.prog 69 #[.int .i64 d] w fun e w' => WayPost w w' d e := by
  obtain ⟨i0, hi, hz0, hz1, hz2⟩ := info_parts infoLeave
  have HA1 := Lib.hid (and1 h07)
  have HA2 := Lib.hid (and2 h07)
  have HA4 := Lib.hid (and4 h07)
  clear h07
  have hO0 : OwnL 73 w w.heap.size (.slice none 0 0) (wayL d 0) := OwnL.nil _ _ _
  go_enter Try.func69, Try.ntmps69
  go_wp2_with fail
  go_loopw [3, 13] (fun v i wr => ∃ (k : Nat) (A : Option Addr) (c : Nat), k ≤ 3 ∧ i = .int .i64 k ∧ v = .slice A (wayL d k).length c ∧ OwnL 73 wr w.heap.size (.slice A (wayL d k).length c) (wayL d k) ∧ Below w.heap.size w wr) (fun _ i _ => 3 - (intOf i).toNat)
  case atStart => exact ⟨0, _, _, by omega, rfl, rfl, hO0, Below.refl _ _⟩
  case round =>
    clear hO0
    obtain ⟨k, A, c, hk, rfl, rfl, hO, hbe⟩ := hrel
    have hlen := wayL_len d k
    have hsz := hbe.size
    have HO := Lib.hid hO
    have HB := Lib.hid hbe
    clear hO hbe
    have hk4 : k = 0 ∨ k = 1 ∨ k = 2 ∨ k = 3 := by omega
    rcases hk4 with rfl | rfl | rfl | rfl
    · have hx : ∀ w' : World, (Instr.index 87 (.agg #[.iface 84 (.agg #[]), .iface 85 (.agg #[]), .iface 86 (.agg #[])]) (.int .i64 0)).run Try.prog w' = .ok (.iface 84 (.agg #[])) w' := fun _ => by kernel_rfl
      have hmax : (wayL d 0).length + 1 ≤ maxLen := by unfold maxLen; omega
      by_cases hy : d.toNat / 2 ^ 0 % 2 = 1
      · have HE := Lib.hid (show wayL d (0 + 1) = wayL d 0 ++ [.iface 84 (.agg #[])] from wayL_yes hy)
        have hbit : (bits .and .i64 d 1 != 0) = true := by rw [HA1.out, decide_eq_true hy]
        clear hy
        go_wp2_with (at_builtin; refine wpList_append_own _ rfl _ _ 70 rfl w.heap.size 73 i0 .nilIface 1 16 Try.underlying70 hi hz0 hz1 hz2 rfl (by decide) _ _ _ rfl (World.ownsRow.alloc HO.out _) ⟨wr.heap.size, 0, none⟩ 1 1 [.iface 84 (.agg #[])] rfl rfl (cell_one_new _ _ _) (fun u hu => by simp at hu; subst hu; rfl) hmax (by omega) (by simp; omega) ?_; intro v' w7 hown' hgrow' hnil'; obtain ⟨B7, d7, rfl, hO7, hb7⟩ := app_afterL HO.out HE.out hown' hgrow' (by omega); clear hown' hgrow' hnil')
        have hb7 := HB.out.trans hb7
        go_roundw
        case rel =>
          have RR : 0 + 1 ≤ 3 ∧ Value.int .i64 (1 : Int) = .int .i64 ((0 + 1 : Nat) : Int) ∧ Value.slice B7 (wayL d (0 + 1)).length d7 = .slice B7 (wayL d (0 + 1)).length d7 ∧ OwnL 73 w7 w.heap.size (.slice B7 (wayL d (0 + 1)).length d7) (wayL d (0 + 1)) ∧ Below w.heap.size w w7 := ⟨by omega, rfl, rfl, hO7, hb7⟩
          first
            | exact ⟨0 + 1, B7, d7, RR⟩
            | ((repeat apply Exists.intro); exact ⟨⟨0 + 1, B7, d7, RR⟩, rfl⟩)
        case measure => simp [intOf]
      · have HE := Lib.hid (show wayL d (0 + 1) = wayL d 0 from wayL_no hy)
        have hbit : (bits .and .i64 d 1 != 0) = false := by rw [HA1.out, decide_eq_false hy]
        clear hy
        go_wp2_with fail
        go_roundw
        case rel =>
          have RR : 0 + 1 ≤ 3 ∧ Value.int .i64 (1 : Int) = .int .i64 ((0 + 1 : Nat) : Int) ∧ Value.slice A (wayL d 0).length c = .slice A (wayL d (0 + 1)).length c ∧ OwnL 73 wr w.heap.size (.slice A (wayL d (0 + 1)).length c) (wayL d (0 + 1)) ∧ Below w.heap.size w wr := ⟨by omega, rfl, by rw [HE.out], by rw [HE.out]; exact HO.out, HB.out⟩
          first
            | exact ⟨0 + 1, A, c, RR⟩
            | ((repeat apply Exists.intro); exact ⟨⟨0 + 1, A, c, RR⟩, rfl⟩)
        case measure => simp [intOf]
    · have hx : ∀ w' : World, (Instr.index 87 (.agg #[.iface 84 (.agg #[]), .iface 85 (.agg #[]), .iface 86 (.agg #[])]) (.int .i64 1)).run Try.prog w' = .ok (.iface 85 (.agg #[])) w' := fun _ => by kernel_rfl
      have hmax : (wayL d 1).length + 1 ≤ maxLen := by unfold maxLen; omega
      by_cases hy : d.toNat / 2 ^ 1 % 2 = 1
      · have HE := Lib.hid (show wayL d (1 + 1) = wayL d 1 ++ [.iface 85 (.agg #[])] from wayL_yes hy)
        have hbit : (bits .and .i64 d 2 != 0) = true := by rw [HA2.out, decide_eq_true hy]
        clear hy
        go_wp2_with (at_builtin; refine wpList_append_own _ rfl _ _ 70 rfl w.heap.size 73 i0 .nilIface 1 16 Try.underlying70 hi hz0 hz1 hz2 rfl (by decide) _ _ _ rfl (World.ownsRow.alloc HO.out _) ⟨wr.heap.size, 0, none⟩ 1 1 [.iface 85 (.agg #[])] rfl rfl (cell_one_new _ _ _) (fun u hu => by simp at hu; subst hu; rfl) hmax (by omega) (by simp; omega) ?_; intro v' w7 hown' hgrow' hnil'; obtain ⟨B7, d7, rfl, hO7, hb7⟩ := app_afterL HO.out HE.out hown' hgrow' (by omega); clear hown' hgrow' hnil')
        have hb7 := HB.out.trans hb7
        go_roundw
        case rel =>
          have RR : 1 + 1 ≤ 3 ∧ Value.int .i64 (2 : Int) = .int .i64 ((1 + 1 : Nat) : Int) ∧ Value.slice B7 (wayL d (1 + 1)).length d7 = .slice B7 (wayL d (1 + 1)).length d7 ∧ OwnL 73 w7 w.heap.size (.slice B7 (wayL d (1 + 1)).length d7) (wayL d (1 + 1)) ∧ Below w.heap.size w w7 := ⟨by omega, rfl, rfl, hO7, hb7⟩
          first
            | exact ⟨1 + 1, B7, d7, RR⟩
            | ((repeat apply Exists.intro); exact ⟨⟨1 + 1, B7, d7, RR⟩, rfl⟩)
        case measure => simp [intOf]
      · have HE := Lib.hid (show wayL d (1 + 1) = wayL d 1 from wayL_no hy)
        have hbit : (bits .and .i64 d 2 != 0) = false := by rw [HA2.out, decide_eq_false hy]
        clear hy
        go_wp2_with fail
        go_roundw
        case rel =>
          have RR : 1 + 1 ≤ 3 ∧ Value.int .i64 (2 : Int) = .int .i64 ((1 + 1 : Nat) : Int) ∧ Value.slice A (wayL d 1).length c = .slice A (wayL d (1 + 1)).length c ∧ OwnL 73 wr w.heap.size (.slice A (wayL d (1 + 1)).length c) (wayL d (1 + 1)) ∧ Below w.heap.size w wr := ⟨by omega, rfl, by rw [HE.out], by rw [HE.out]; exact HO.out, HB.out⟩
          first
            | exact ⟨1 + 1, A, c, RR⟩
            | ((repeat apply Exists.intro); exact ⟨⟨1 + 1, A, c, RR⟩, rfl⟩)
        case measure => simp [intOf]
    · have hx : ∀ w' : World, (Instr.index 87 (.agg #[.iface 84 (.agg #[]), .iface 85 (.agg #[]), .iface 86 (.agg #[])]) (.int .i64 2)).run Try.prog w' = .ok (.iface 86 (.agg #[])) w' := fun _ => by kernel_rfl
      have hmax : (wayL d 2).length + 1 ≤ maxLen := by unfold maxLen; omega
      by_cases hy : d.toNat / 2 ^ 2 % 2 = 1
      · have HE := Lib.hid (show wayL d (2 + 1) = wayL d 2 ++ [.iface 86 (.agg #[])] from wayL_yes hy)
        have hbit : (bits .and .i64 d 4 != 0) = true := by rw [HA4.out, decide_eq_true hy]
        clear hy
        go_wp2_with (at_builtin; refine wpList_append_own _ rfl _ _ 70 rfl w.heap.size 73 i0 .nilIface 1 16 Try.underlying70 hi hz0 hz1 hz2 rfl (by decide) _ _ _ rfl (World.ownsRow.alloc HO.out _) ⟨wr.heap.size, 0, none⟩ 1 1 [.iface 86 (.agg #[])] rfl rfl (cell_one_new _ _ _) (fun u hu => by simp at hu; subst hu; rfl) hmax (by omega) (by simp; omega) ?_; intro v' w7 hown' hgrow' hnil'; obtain ⟨B7, d7, rfl, hO7, hb7⟩ := app_afterL HO.out HE.out hown' hgrow' (by omega); clear hown' hgrow' hnil')
        have hb7 := HB.out.trans hb7
        go_roundw
        case rel =>
          have RR : 2 + 1 ≤ 3 ∧ Value.int .i64 (3 : Int) = .int .i64 ((2 + 1 : Nat) : Int) ∧ Value.slice B7 (wayL d (2 + 1)).length d7 = .slice B7 (wayL d (2 + 1)).length d7 ∧ OwnL 73 w7 w.heap.size (.slice B7 (wayL d (2 + 1)).length d7) (wayL d (2 + 1)) ∧ Below w.heap.size w w7 := ⟨by omega, rfl, rfl, hO7, hb7⟩
          first
            | exact ⟨2 + 1, B7, d7, RR⟩
            | ((repeat apply Exists.intro); exact ⟨⟨2 + 1, B7, d7, RR⟩, rfl⟩)
        case measure => simp [intOf]
      · have HE := Lib.hid (show wayL d (2 + 1) = wayL d 2 from wayL_no hy)
        have hbit : (bits .and .i64 d 4 != 0) = false := by rw [HA4.out, decide_eq_false hy]
        clear hy
        go_wp2_with fail
        go_roundw
        case rel =>
          have RR : 2 + 1 ≤ 3 ∧ Value.int .i64 (3 : Int) = .int .i64 ((2 + 1 : Nat) : Int) ∧ Value.slice A (wayL d 2).length c = .slice A (wayL d (2 + 1)).length c ∧ OwnL 73 wr w.heap.size (.slice A (wayL d (2 + 1)).length c) (wayL d (2 + 1)) ∧ Below w.heap.size w wr := ⟨by omega, rfl, by rw [HE.out], by rw [HE.out]; exact HO.out, HB.out⟩
          first
            | exact ⟨2 + 1, A, c, RR⟩
            | ((repeat apply Exists.intro); exact ⟨⟨2 + 1, A, c, RR⟩, rfl⟩)
        case measure => simp [intOf]
    · go_wp2_with fail
      go_ret
      exact ⟨_, _, rfl, HO.out, HB.out⟩
end Go.Proofs.Ytjanalljaacnoaa.Ko
