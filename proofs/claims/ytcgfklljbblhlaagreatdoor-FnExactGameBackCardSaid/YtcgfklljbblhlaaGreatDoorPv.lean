/- The values of chapter 3 (no program is named): who stands on a square, what a man attacks, check, whether a position is valid. A man is a triple: kind (dx), owner (dy), square (far). -/
import Derived.Test.YtcgfklljbblhlaaGreatDoorRk
namespace Go.Proofs.YtcgfklljbblhlaaGreatDoor.Ko
open Go.ChangeShapes Go.WideShapes Go.ChangeAt Go.RowKit Base Sq
set_option linter.unusedVariables false
set_option maxRecDepth 20000

theorem stAt_lt {l : List St} {i : Nat} (h : i < l.length) : stAt l i = l[i] := by simp [stAt, List.getD_eq_getElem?_getD, h]
/-- the index of the man on a square, or -1 -/
def manV (l : List St) (q : Int) : Int := match l.findIdx? (fun m => decide (m.far = q)) with | some i => (i : Int) | none => -1
theorem manV_hit {l : List St} {q : Int} {k : Nat} (hk : k < l.length) (hn : ∀ j, j < k → (stAt l j).far ≠ q) (h : (stAt l k).far = q) : manV l q = k := by
  unfold manV
  rw [show l.findIdx? (fun m => decide (m.far = q)) = some k from List.findIdx?_eq_some_iff_getElem.2 ⟨hk, by rw [← stAt_lt hk]; simpa using h, fun j hj => by
    have := hn j hj; rw [stAt_lt (by omega)] at this; simpa using this⟩]
theorem manV_none {l : List St} {q : Int} (hn : ∀ j, j < l.length → (stAt l j).far ≠ q) : manV l q = -1 := by
  unfold manV
  rw [show l.findIdx? (fun m => decide (m.far = q)) = none from List.findIdx?_eq_none_iff.2 (fun x hx => by
    obtain ⟨i, hi, rfl⟩ := List.getElem_of_mem hx
    have := hn i hi; rw [stAt_lt hi] at this; simpa using this)]
theorem manV_bd (l : List St) (q : Int) : -1 ≤ manV l q ∧ manV l q < l.length := by
  unfold manV
  cases h : l.findIdx? (fun m => decide (m.far = q)) with
  | none => simp; omega
  | some i =>
    obtain ⟨hi, _⟩ := List.findIdx?_eq_some_iff_getElem.1 h
    simp; omega

/-- the square behind one step, or -1 -/
def nextV (s a dx dy : Int) : Int := numV s (a % s + dx) (a / s + dy)
/-- the squares that repeated steps attack -/
def rayL (s : Int) (l : List St) (dx dy : Int) : Nat → Int → List Int
  | 0, _ => []
  | n + 1, a => if nextV s a dx dy < 0 then [] else nextV s a dx dy :: (if manV l (nextV s a dx dy) = -1 then rayL s l dx dy n (nextV s a dx dy) else [])
theorem rayL_off {s : Int} {l : List St} {dx dy : Int} {n : Nat} {a : Int} (h : nextV s a dx dy < 0) : rayL s l dx dy (n + 1) a = [] := by simp [rayL, h]
theorem rayL_on {s : Int} {l : List St} {dx dy : Int} {n : Nat} {a : Int} (h : ¬ nextV s a dx dy < 0) (hm : manV l (nextV s a dx dy) = -1) : rayL s l dx dy (n + 1) a = nextV s a dx dy :: rayL s l dx dy n (nextV s a dx dy) := by simp [rayL, h, hm]
theorem rayL_last {s : Int} {l : List St} {dx dy : Int} {n : Nat} {a : Int} (h : ¬ nextV s a dx dy < 0) (hm : ¬ manV l (nextV s a dx dy) = -1) : rayL s l dx dy (n + 1) a = [nextV s a dx dy] := by simp [rayL, h, hm]
theorem rayL_len (s : Int) (l : List St) (dx dy : Int) (n : Nat) (a : Int) : (rayL s l dx dy n a).length ≤ n := by
  induction n generalizing a with
  | zero => simp [rayL]
  | succ n ih =>
    simp only [rayL]
    split
    · simp
    · split
      · simp; exact ih _
      · simp
def stepL (s : Int) (l : List St) (st : St) (a : Int) : List Int := rayL s l st.dx st.dy st.far.toNat a
/-- the squares that the first k steps of a kind attack -/
def attL (s : Int) (l steps : List St) (a : Int) : Nat → List Int
  | 0 => []
  | k + 1 => attL s l steps a k ++ stepL s l (stAt steps k) a
theorem attL_len {s : Int} {l steps : List St} {a : Int} {k : Nat} (h : ∀ j, j < k → (stAt steps j).far ≤ 3) : (attL s l steps a k).length ≤ 3 * k := by
  induction k with
  | zero => simp [attL]
  | succ k ih =>
    have h1 := ih (fun j hj => h j (by omega))
    have h2 := h k (by omega)
    have h3 := rayL_len s l (stAt steps k).dx (stAt steps k).dy (stAt steps k).far.toNat a
    simp only [attL, stepL, List.length_append]
    omega
theorem mem_attL {s : Int} {l steps : List St} {a q : Int} {k : Nat} : q ∈ attL s l steps a k ↔ ∃ j, j < k ∧ q ∈ stepL s l (stAt steps j) a := by
  induction k with
  | zero => simp [attL]
  | succ k ih =>
    simp only [attL, List.mem_append, ih]
    constructor
    · rintro (⟨j, hj, h⟩ | h)
      · exact ⟨j, by omega, h⟩
      · exact ⟨k, by omega, h⟩
    · rintro ⟨j, hj, h⟩
      rcases Nat.lt_succ_iff_lt_or_eq.1 hj with hj | rfl
      · exact .inl ⟨j, hj, h⟩
      · exact .inr h
/-- a man on square a, of a kind with these steps, attacks q -/
def hitsB (s : Int) (l steps : List St) (a q : Int) : Bool := decide (q ∈ attL s l steps a steps.length)
theorem hitsB_yes {s : Int} {l steps : List St} {a q : Int} {k : Nat} (hk : k < steps.length) (h : q ∈ stepL s l (stAt steps k) a) : hitsB s l steps a q = true :=
  decide_eq_true (mem_attL.2 ⟨k, hk, h⟩)
theorem hitsB_no {s : Int} {l steps : List St} {a q : Int} (h : ∀ k, k < steps.length → q ∉ stepL s l (stAt steps k) a) : hitsB s l steps a q = false :=
  decide_eq_false (fun hm => by obtain ⟨j, hj, h'⟩ := mem_attL.1 hm; exact h j hj h')

/-! valid rules -/
theorem rulesOk_facts {side : Int} {ks : List Kd} (h : rulesOk side ks = true) :
    (side = 2 ∨ side = 3 ∨ side = 4) ∧ 1 ≤ ks.length ∧ ks.length ≤ 4 ∧ kings ks ks.length = 1 ∧
    ∀ k, k < ks.length → (kAt ks k).steps.length ≤ 8 ∧ ∀ i, i < (kAt ks k).steps.length →
      let s := stAt (kAt ks k).steps i
      (-2 ≤ s.dx ∧ s.dx ≤ 2) ∧ (-2 ≤ s.dy ∧ s.dy ≤ 2) ∧ 1 ≤ s.far ∧ s.far ≤ 3 := by
  unfold rulesOk at h
  simp only [Bool.and_eq_true, decide_eq_true_eq, List.all_eq_true, List.mem_range] at h
  obtain ⟨⟨⟨h1, h2⟩, h3⟩, h4⟩ := h
  have h1 := of_decide_eq_true h1
  have h2 := of_decide_eq_true h2
  refine ⟨by omega, by omega, by omega, h4, fun k hk => ?_⟩
  have h5 := h3 k hk
  unfold goodK kOk kindOk stepsOk at h5
  simp only [Bool.and_eq_true, List.all_eq_true, List.mem_range] at h5
  obtain ⟨⟨⟨_, h6⟩, h7⟩, _⟩ := h5
  have h6 := of_decide_eq_true h6
  refine ⟨by omega, fun i hi => ?_⟩
  have h8 := h7 i hi
  unfold goodAt stOk at h8
  simp only [Bool.and_eq_true] at h8
  obtain ⟨⟨⟨⟨_, ha⟩, hb⟩, hc⟩, _⟩ := h8
  have ha := of_decide_eq_true ha
  have hb := of_decide_eq_true hb
  have hc := of_decide_eq_true hc
  exact ⟨ha, hb, hc⟩
/-- the first kind that is a king, or -1 -/
def kingV (ks : List Kd) : Int := match ks.findIdx? (·.king) with | some i => (i : Int) | none => -1
theorem kAt_lt {ks : List Kd} {i : Nat} (h : i < ks.length) : kAt ks i = ks[i] := by simp [kAt, List.getD_eq_getElem?_getD, h]
theorem kingV_hit {ks : List Kd} {k : Nat} (hk : k < ks.length) (hn : ∀ j, j < k → (kAt ks j).king = false) (h : (kAt ks k).king = true) : kingV ks = k := by
  unfold kingV
  rw [show ks.findIdx? (·.king) = some k from List.findIdx?_eq_some_iff_getElem.2 ⟨hk, by rw [← kAt_lt hk]; exact h, fun j hj => by
    have := hn j hj; rw [kAt_lt (by omega)] at this; simp [this]⟩]
theorem kingV_none {ks : List Kd} (hn : ∀ j, j < ks.length → (kAt ks j).king = false) : kingV ks = -1 := by
  unfold kingV
  rw [show ks.findIdx? (·.king) = none from List.findIdx?_eq_none_iff.2 (fun x hx => by
    obtain ⟨i, hi, rfl⟩ := List.getElem_of_mem hx
    have := hn i hi; rw [kAt_lt hi] at this; exact this)]
theorem kings_mono (ks : List Kd) {a b : Nat} (h : a ≤ b) : kings ks a ≤ kings ks b := by
  induction b with
  | zero => have : a = 0 := by omega
            subst this; exact Int.le_refl _
  | succ b ih =>
    by_cases h2 : a = b + 1
    · subst h2; exact Int.le_refl _
    · have := ih (by omega)
      simp only [kings]; split <;> omega
/-- with one king, a kind is the king just where its flag is set -/
theorem king_iff {ks : List Kd} (h : kings ks ks.length = 1) {k : Nat} (hk : k < ks.length) : ((kAt ks k).king = true) ↔ (k : Int) = kingV ks := by
  have first : ∃ i, i < ks.length ∧ (kAt ks i).king = true ∧ ∀ j, j < i → (kAt ks j).king = false := by
    have : ∀ n, n ≤ ks.length → (∀ j, j < n → (kAt ks j).king = false) ∨ ∃ i, i < n ∧ (kAt ks i).king = true ∧ ∀ j, j < i → (kAt ks j).king = false := by
      intro n hn
      induction n with
      | zero => exact .inl (fun j hj => absurd hj (by omega))
      | succ n ih =>
        rcases ih (by omega) with h0 | ⟨i, hi, h1, h2⟩
        · cases hkn : (kAt ks n).king
          · exact .inl (all_succ h0 hkn)
          · exact .inr ⟨n, by omega, hkn, h0⟩
        · exact .inr ⟨i, by omega, h1, h2⟩
    rcases this ks.length (Nat.le_refl _) with h0 | h0
    · exfalso
      have hz : ∀ n, n ≤ ks.length → kings ks n = 0 := by
        intro n hn
        induction n with
        | zero => rfl
        | succ n ih => simp [kings, ih (by omega), h0 n (by omega)]
      rw [hz _ (Nat.le_refl _)] at h; omega
    · exact h0
  obtain ⟨i, hi, h1, h2⟩ := first
  rw [kingV_hit hi h2 h1]
  constructor
  · intro hkk
    rcases Nat.lt_trichotomy k i with hlt | rfl | hgt
    · rw [h2 k hlt] at hkk; cases hkk
    · rfl
    · exfalso
      have e1 := kings_yes h1
      have e2 := kings_yes hkk
      have m1 := kings_mono ks (show i + 1 ≤ k by omega)
      have m2 := kings_mono ks (show k + 1 ≤ ks.length by omega)
      have b1 := (kings_bd ks i).1
      omega
  · intro he
    have : k = i := by omega
    subst this; exact h1

/-! valid positions -/
def kOf (ks : List Kd) (m : St) : Kd := kAt ks m.dx.toNat
def goodM (side : Int) (ks : List Kd) (l : List St) (i : Nat) : Bool :=
  inB (stAt l i).dx 0 (ks.length - 1) && inB (stAt l i).dy 0 1 && inB (stAt l i).far 0 (side * side - 1) && (decide (i = 0) || decide ((stAt l (i - 1)).far < (stAt l i).far))
/-- how many of the first k men are a player's kings -/
def cntK (ks : List Kd) (l : List St) (o : Int) : Nat → Int
  | 0 => 0
  | k + 1 => cntK ks l o k + if (stAt l k).dy = o ∧ (stAt l k).dx = kingV ks then 1 else 0
def shapeB (side : Int) (ks : List Kd) (t : Int) (l : List St) : Bool :=
  inB t 0 1 && decide (l.length ≤ 4) && (List.range l.length).all (goodM side ks l) && decide (cntK ks l 0 l.length = 1) && decide (cntK ks l 1 l.length = 1)
/-- the square of a player's first king, or -1 -/
def kingAt (ks : List Kd) (l : List St) (o : Int) : Int := match l.find? (fun m => decide (m.dy = o) && decide (m.dx = kingV ks)) with | some m => m.far | none => -1
def checkB (side : Int) (ks : List Kd) (l : List St) (o : Int) : Bool :=
  (List.range l.length).any fun i => decide ((stAt l i).dy ≠ o) && hitsB side l (kOf ks (stAt l i)).steps (stAt l i).far (kingAt ks l o)
def posOk (side : Int) (ks : List Kd) (t : Int) (l : List St) : Bool := shapeB side ks t l && !checkB side ks l (1 - t)
theorem cntK_bd (ks : List Kd) (l : List St) (o : Int) (k : Nat) : 0 ≤ cntK ks l o k ∧ cntK ks l o k ≤ k := by
  induction k with
  | zero => exact ⟨Int.le_refl _, Int.le_refl _⟩
  | succ k ih => simp only [cntK]; split <;> omega
theorem cntK_mono (ks : List Kd) (l : List St) (o : Int) {a b : Nat} (h : a ≤ b) : cntK ks l o a ≤ cntK ks l o b := by
  induction b with
  | zero => have : a = 0 := by omega
            subst this; exact Int.le_refl _
  | succ b ih =>
    by_cases h2 : a = b + 1
    · subst h2; exact Int.le_refl _
    · have := ih (by omega)
      simp only [cntK]; split <;> omega
theorem kingAt_hit {ks : List Kd} {l : List St} {o : Int} {k : Nat} (hk : k < l.length) (hn : ∀ j, j < k → ¬ ((stAt l j).dy = o ∧ (stAt l j).dx = kingV ks)) (h : (stAt l k).dy = o ∧ (stAt l k).dx = kingV ks) : kingAt ks l o = (stAt l k).far := by
  unfold kingAt
  rw [show l.find? (fun m => decide (m.dy = o) && decide (m.dx = kingV ks)) = some (stAt l k) from by
    rw [List.find?_eq_some_iff_getElem]
    refine ⟨by simpa using h, k, hk, (stAt_lt hk).symm, fun j hj => ?_⟩
    have := hn j hj
    rw [stAt_lt (by omega)] at this
    by_cases h1 : l[j].dy = o <;> simp_all]
theorem kingAt_none {ks : List Kd} {l : List St} {o : Int} (hn : ∀ j, j < l.length → ¬ ((stAt l j).dy = o ∧ (stAt l j).dx = kingV ks)) : kingAt ks l o = -1 := by
  unfold kingAt
  rw [show l.find? (fun m => decide (m.dy = o) && decide (m.dx = kingV ks)) = none from by
    rw [List.find?_eq_none]
    intro x hx
    obtain ⟨i, hi, rfl⟩ := List.getElem_of_mem hx
    have := hn i hi
    rw [stAt_lt hi] at this
    simpa using this]
/-- a player's one king -/
theorem kingAt_one {ks : List Kd} {l : List St} {o : Int} (h : cntK ks l o l.length = 1) {k : Nat} (hk : k < l.length) (hkk : (stAt l k).dy = o ∧ (stAt l k).dx = kingV ks) : kingAt ks l o = (stAt l k).far := by
  refine kingAt_hit hk (fun j hj hjj => ?_) hkk
  have e1 : cntK ks l o (j + 1) = cntK ks l o j + 1 := by simp [cntK, hjj]
  have e2 : cntK ks l o (k + 1) = cntK ks l o k + 1 := by simp [cntK, hkk]
  have m1 := cntK_mono ks l o (show j + 1 ≤ k by omega)
  have m2 := cntK_mono ks l o (show k + 1 ≤ l.length by omega)
  have b1 := (cntK_bd ks l o j).1
  omega
theorem kingAt_some {ks : List Kd} {l : List St} {o : Int} (h : cntK ks l o l.length = 1) : ∃ k, k < l.length ∧ (stAt l k).dy = o ∧ (stAt l k).dx = kingV ks := by
  apply Classical.byContradiction
  intro hno
  have hz : ∀ n, n ≤ l.length → cntK ks l o n = 0 := by
    intro n hn
    induction n with
    | zero => rfl
    | succ n ih =>
      simp only [cntK, ih (by omega)]
      rw [if_neg (fun hc => hno ⟨n, by omega, hc⟩)]
      rfl
  rw [hz _ (Nat.le_refl _)] at h; omega
theorem shapeB_facts {side t : Int} {ks : List Kd} {l : List St} (h : shapeB side ks t l = true) :
    (0 ≤ t ∧ t ≤ 1) ∧ l.length ≤ 4 ∧ cntK ks l 0 l.length = 1 ∧ cntK ks l 1 l.length = 1 ∧
    ∀ i, i < l.length → (0 ≤ (stAt l i).dx ∧ (stAt l i).dx < ks.length) ∧ (0 ≤ (stAt l i).dy ∧ (stAt l i).dy ≤ 1) ∧ (0 ≤ (stAt l i).far ∧ (stAt l i).far < side * side) ∧ (0 < i → (stAt l (i - 1)).far < (stAt l i).far) := by
  unfold shapeB at h
  simp only [Bool.and_eq_true, decide_eq_true_eq, List.all_eq_true, List.mem_range] at h
  obtain ⟨⟨⟨⟨h1, h2⟩, h3⟩, h4⟩, h5⟩ := h
  have h1 := of_decide_eq_true h1
  refine ⟨h1, h2, h4, h5, fun i hi => ?_⟩
  have h6 := h3 i hi
  unfold goodM at h6
  simp only [Bool.and_eq_true, Bool.or_eq_true, decide_eq_true_eq] at h6
  obtain ⟨⟨⟨ha, hb⟩, hc⟩, hd⟩ := h6
  have ha := of_decide_eq_true ha
  have hb := of_decide_eq_true hb
  have hc := of_decide_eq_true hc
  exact ⟨by omega, hb, by omega, fun hi0 => by omega⟩
end Go.Proofs.YtcgfklljbblhlaaGreatDoor.Ko
