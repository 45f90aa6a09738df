/- HeapsBest: values; l18Do; the model's and the program's. -/
import Derived.Test.YtiilijpljhnphaaKf
import Derived.Deep.RegionHeld3
namespace Go.Proofs.Ytiilijpljhnphaa.Ko
open Go.ChangeShapes Go.WideShapes Go.ChangeAt Go.RowKit Base Sq In
set_option linter.unusedVariables false
set_option maxRecDepth 20000
attribute [local irreducible] wpQuiet

theorem xor_zero_iff {a b : Nat} : a ^^^ b = 0 ↔ a = b := by
  constructor
  · intro h
    have h2 : (a ^^^ b) ^^^ b = b := by rw [h]; simp
    rw [Nat.xor_assoc, Nat.xor_self] at h2
    simpa using h2
  · intro h; subst h; exact Nat.xor_self _
theorem xor_swap (a b c d : Nat) : ((a ^^^ b) ^^^ c) ^^^ d = ((a ^^^ d) ^^^ b) ^^^ c := by ac_rfl
theorem xorV_nat (a b : Int) : (xorV a b).toNat = a.toNat ^^^ b.toNat := by unfold xorV; rw [Int.toNat_natCast]
theorem iAt_set_same {z : List Int} {i : Nat} (hi : i < z.length) (v : Int) : iAt (z.set i v) i = v := by unfold iAt; simp [List.getD_eq_getElem?_getD, hi]
theorem iAt_set_other {z : List Int} {i j : Nat} (h : i ≠ j) (v : Int) : iAt (z.set i v) j = iAt z j := by unfold iAt; simp [List.getD_eq_getElem?_getD, List.getElem?_set_ne h]
theorem heapsK_low {s z : List Int} {i : Nat} {v : Int} : ∀ k, k ≤ i → heapsK s (z.set i v) k = heapsK s z k := by
  intro k
  induction k with
  | zero => intro _; rfl
  | succ k ih =>
    intro h
    show xorV _ _ = xorV _ _
    rw [ih (by omega), iAt_set_other (by omega)]
theorem heapsK_set {s z : List Int} {i : Nat} (v : Int) : ∀ k, i < k → k ≤ z.length → (heapsK s (z.set i v) k).toNat = ((heapsK s z k).toNat ^^^ (iAt (gruV s 61) (iAt z i).toNat).toNat) ^^^ (iAt (gruV s 61) v.toNat).toNat := by
  intro k
  induction k with
  | zero => intro h _; omega
  | succ k ih =>
    intro h hk
    show (xorV _ _).toNat = ((xorV _ _).toNat ^^^ _) ^^^ _
    rw [xorV_nat, xorV_nat]
    rcases Nat.lt_succ_iff_lt_or_eq.1 h with h1 | rfl
    · rw [ih h1 (by omega), iAt_set_other (by omega)]
      exact xor_swap _ _ _ _
    · rw [heapsK_low i (Nat.le_refl _), iAt_set_same (by omega), Nat.xor_assoc (heapsK s z i).toNat, Nat.xor_self, Nat.xor_zero]
/-- behind this move the heaps together are worth 0 -/
def winB (s z : List Int) (m : Pr) : Bool := iAt (gruV s 61) (iAt z m.1.toNat - m.2).toNat == xorV (heapsK s z z.length) (iAt (gruV s 61) (iAt z m.1.toNat).toNat)
/-- the heaps behind a move -/
def doH (z : List Int) (m : Pr) : List Int := z.set m.1.toNat (iAt z m.1.toNat - m.2)
theorem doH_len (z : List Int) (m : Pr) : (doH z m).length = z.length := by unfold doH; simp
/-- the move is one of a heap that is there, of no more than it has -/
def MoveOk (z : List Int) (m : Pr) : Prop := 0 ≤ m.1 ∧ m.1.toNat < z.length ∧ 1 ≤ m.2 ∧ m.2 ≤ iAt z m.1.toNat
theorem heapsB_do {z : List Int} {m : Pr} (hz : heapsB z = true) (hm : MoveOk z m) : heapsB (doH z m) = true := by
  rw [heapsB_end (z := doH z m) (fun j hj => ?_), doH_len, decide_eq_true (heapsB_len hz)]
  rw [doH_len] at hj
  have h1 := heapsB_in hz hj
  have h2 := heapsB_in hz hm.2.1
  obtain ⟨a, b, c, d⟩ := hm
  unfold heapAt doH
  by_cases e : m.1.toNat = j
  · subst e
    rw [iAt_set_same hj]
    exact decide_eq_true (by omega)
  · rw [iAt_set_other e]
    exact decide_eq_true (by omega)
theorem win_iff {s z : List Int} {m : Pr} (hs : setB s = true) (hz : heapsB z = true) (hm : MoveOk z m) : (heapsK s (doH z m) (doH z m).length == 0) = winB s z m := by
  have hb := heapsK_bd hs (heapsB_do hz hm) (Nat.le_refl _)
  have h1 := heapsK_set (s := s) (z := z) (i := m.1.toNat) (iAt z m.1.toNat - m.2) z.length hm.2.1 (Nat.le_refl _)
  have hh := heapsB_in hz hm.2.1
  have hg := gruV_bd (s := s) (n := 61) (i := (iAt z m.1.toNat - m.2).toNat) (by have := hm.2.2; omega)
  rw [doH_len] at hb ⊢
  have e1 : doH z m = z.set m.1.toNat (iAt z m.1.toNat - m.2) := rfl
  rw [← e1] at h1
  unfold winB
  have e2 : (xorV (heapsK s z z.length) (iAt (gruV s 61) (iAt z m.1.toNat).toNat)) = (((heapsK s z z.length).toNat ^^^ (iAt (gruV s 61) (iAt z m.1.toNat).toNat).toNat : Nat) : Int) := rfl
  rw [Bool.eq_iff_iff, beq_iff_eq, beq_iff_eq, e2]
  generalize (heapsK s z z.length).toNat ^^^ (iAt (gruV s 61) (iAt z m.1.toNat).toNat).toNat = X at *
  have h3 : (heapsK s (doH z m) z.length).toNat = 0 ↔ X = (iAt (gruV s 61) (iAt z m.1.toNat - m.2).toNat).toNat := by rw [h1]; exact xor_zero_iff
  constructor
  · intro h; have := h3.1 (by omega); omega
  · intro h; have := h3.2 (by omega); omega
theorem takeL_mem {s : List Int} {i h : Int} {k : Nat} {m : Pr} (hk : k ≤ s.length) (hm : m ∈ takeL s i h k) : ∃ j, j < s.length ∧ m = (i, iAt s j) ∧ iAt s j ≤ h := by
  induction k with
  | zero => simp [takeL] at hm
  | succ k ih =>
    unfold takeL at hm
    split at hm
    · rename_i hle
      rcases List.mem_append.1 hm with h1 | h1
      · exact ih (by omega) h1
      · exact ⟨k, by omega, by simpa using h1, hle⟩
    · exact ih (by omega) hm
theorem movH_mem {s z : List Int} (hs : setB s = true) {n : Nat} (hn : n ≤ z.length) {m : Pr} (hm : m ∈ movH s z n) : MoveOk z m := by
  induction n with
  | zero => simp [movH] at hm
  | succ n ih =>
    unfold movH at hm
    rcases List.mem_append.1 hm with h1 | h1
    · exact ih (by omega) h1
    · obtain ⟨j, hj, rfl, hle⟩ := takeL_mem (Nat.le_refl _) h1
      have h2 := setB_in hs hj
      refine ⟨by show (0 : Int) ≤ (n : Int); omega, by show (n : Int).toNat < _; omega, h2.1, ?_⟩
      show iAt s j ≤ iAt z ((n : Int).toNat)
      rw [Int.toNat_natCast]
      exact hle
theorem prAt_mem {l : List Pr} {i : Nat} (h : i < l.length) : prAt l i ∈ l := by
  unfold prAt; simp [List.getD_eq_getElem?_getD, h]
theorem movH_ok {s z : List Int} (hs : setB s = true) {i : Nat} (h : i < (movH s z z.length).length) : MoveOk z (prAt (movH s z z.length) i) := movH_mem hs (Nat.le_refl _) (prAt_mem h)
/-- those of the first k moves that win -/
def bestK (s z : List Int) (ms : List Pr) : Nat → List Pr
  | 0 => []
  | k + 1 => if winB s z (prAt ms k) = true then bestK s z ms k ++ [((prAt ms k).1, (prAt ms k).2)] else bestK s z ms k
theorem bestK_len (s z : List Int) (ms : List Pr) (k : Nat) : (bestK s z ms k).length ≤ k := by
  induction k with
  | zero => exact Nat.le_refl _
  | succ k ih =>
    unfold bestK
    split
    · rw [List.length_append]; exact Nat.add_le_add ih (Nat.le_refl 1)
    · omega
theorem bestK_yes {s z : List Int} {ms : List Pr} {k : Nat} (h : winB s z (prAt ms k) = true) : bestK s z ms (k + 1) = bestK s z ms k ++ [((prAt ms k).1, (prAt ms k).2)] := if_pos h
theorem bestK_no {s z : List Int} {ms : List Pr} {k : Nat} (h : winB s z (prAt ms k) = false) : bestK s z ms (k + 1) = bestK s z ms k := if_neg (by rw [h]; decide)
/-- what HeapsBest answers -/
def bestH (s z : List Int) : List Pr := if (setB s && heapsB z) = true then bestK s z (movH s z z.length) (movH s z z.length).length else []
theorem movH_few {s z : List Int} (hs : setB s = true) (hz : heapsB z = true) : (movH s z z.length).length ≤ 20 := by
  have h1 := movH_len s z z.length
  have h2 := Nat.mul_le_mul (heapsB_len hz) (setB_len hs).2
  omega
theorem bestH_len {s z : List Int} : (bestH s z).length ≤ 1048576 := by
  unfold bestH
  split
  · rename_i h
    rw [Bool.and_eq_true] at h
    have h1 := bestK_len s z (movH s z z.length) (movH s z z.length).length
    have h2 := movH_few h.1 h.2
    omega
  · exact Nat.zero_le _
theorem bestH_no {s z : List Int} (h : (setB s && heapsB z) = false) : bestH s z = [] := if_neg (by rw [h]; decide)
theorem bestH_yes {s z : List Int} (h : setB s = true) (hz : heapsB z = true) : bestH s z = bestK s z (movH s z z.length) (movH s z z.length).length := if_pos (by rw [h, hz]; rfl)
theorem nums_get {l : List Int} {j : Nat} {u : Value} (h : (nums l)[j]? = some u) : j < l.length ∧ u = .int .i64 (iAt l j) := by
  unfold nums at h
  rw [List.getElem?_map] at h
  obtain ⟨x, hx, rfl⟩ := Option.map_eq_some_iff.1 h
  obtain ⟨hj, rfl⟩ := List.getElem?_eq_some_iff.1 hx
  exact ⟨hj, by unfold iAt; simp [List.getD_eq_getElem?_getD, hj]⟩
theorem nums_len (l : List Int) : (nums l).length = l.length := by simp [nums]
theorem nums_one (l : List Int) : ∀ u ∈ nums l, u.oneCell' = true := by
  intro u hu
  unfold nums at hu
  obtain ⟨x, _, rfl⟩ := List.mem_map.1 hu
  rfl
theorem add_at (b j : Nat) : Addr.add ⟨b, 0, none⟩ j = ⟨b, j, none⟩ := by
  unfold Addr.add
  split
  · rename_i h0; rw [h0]
  · simp
theorem IsInts.news {w : World} {B b : Nat} {l : List Int} (h : IsInts w B (some ⟨b, 0, none⟩) l) : ∀ j u, (nums l)[j]? = some u → w.cell? (Addr.add ⟨b, 0, none⟩ j) = some u := fun j u hu => by
  obtain ⟨hj, rfl⟩ := nums_get hu
  rw [add_at]
  exact (h.at hj).2
/-- an own list of whole numbers in which one number is put -/
theorem own_put {w : World} {base c : Nat} {A : Option Addr} {z : List Int} (h : In.Own w base (.slice A z.length c) z) {i : Nat} (hi : i < z.length) :
    ∃ g, A = some ⟨g, 0, none⟩ ∧ base ≤ g ∧ g < w.heap.size ∧ w.cell? ⟨g, i, none⟩ = some (.int .i64 (iAt z i)) ∧ w.frozen? ⟨g, i, none⟩ = false ∧ ∀ x : Int, In.Own (w.setCell ⟨g, i, none⟩ (.int .i64 x)) base (.slice (some ⟨g, 0, none⟩) z.length c) (z.set i x) := by
  have h0 := h
  rcases h.2 with ⟨hv, hn⟩ | ⟨g, cap, cur, hv, hB, hg, hn, hm, hs, ht⟩
  · omega
  · simp only [Value.slice.injEq] at hv
    obtain ⟨rfl, _, rfl⟩ := hv
    obtain ⟨A', c', hv', hI⟩ := h0.is
    simp only [Value.slice.injEq] at hv'
    obtain ⟨rfl, _, rfl⟩ := hv'
    have hb : Blk w g cur 3 := hg
    refine ⟨g, rfl, hB, hb.lt, (hI.at hi).2, hb.free i, fun x => ⟨by rw [nums_len, List.length_set, Nat.mul_one], .inr ⟨g, c, cur.setIfInBounds i (.int .i64 x), by rw [List.length_set], hB, hb.set i _, by rw [List.length_set]; exact hn, hm, by simpa using hs, ?_⟩⟩⟩
    rw [List.length_set, Array.toList_setIfInBounds, List.take_set, ht]
    unfold nums
    rw [List.map_set]
end Go.Proofs.Ytiilijpljhnphaa.Ko
