/- The values of a move (no program is named): the men behind it, in order. -/
import Derived.Test.YtcgfklljbblhlaaGreatDoorHi
namespace Go.Proofs.YtcgfklljbblhlaaGreatDoor.Ko
open Go.ChangeShapes Go.WideShapes Go.ChangeAt Go.RowKit Base Sq
set_option linter.unusedVariables false
set_option maxRecDepth 20000

/-- the men that stay: neither the one that goes, nor what stands where it goes -/
def resL (l : List St) (i : Nat) (q : Int) : Nat → List St
  | 0 => []
  | k + 1 => resL l i q k ++ (if k = i ∨ (stAt l k).far = q then [] else [stAt l k])
/-- the men as the program lists them before it sorts -/
def aftL (l : List St) (i : Nat) (q : Int) : Nat → List St
  | 0 => []
  | k + 1 => aftL l i q k ++ (if k = i then [⟨(stAt l i).dx, (stAt l i).dy, q⟩] else if (stAt l k).far = q then [] else [stAt l k])
/-- a man put among others, ahead of the first that stands no lower -/
def putL : List St → St → List St
  | [], m => [m]
  | s :: l, m => if s.far < m.far then s :: putL l m else m :: s :: l
/-- the men behind a move -/
def doL (l : List St) (i : Nat) (q : Int) : List St := putL (resL l i q l.length) ⟨(stAt l i).dx, (stAt l i).dy, q⟩
def Asc (l : List St) : Prop := l.Pairwise fun a b => a.far < b.far

theorem putL_perm (l : List St) (m : St) : (putL l m).Perm (m :: l) := by
  induction l with
  | nil => exact .refl _
  | cons s l ih =>
    simp only [putL]
    split
    · exact (ih.cons s).trans (.swap m s l)
    · exact .refl _
theorem putL_len (l : List St) (m : St) : (putL l m).length = l.length + 1 := by simpa using (putL_perm l m).length_eq
theorem mem_putL {l : List St} {m x : St} : x ∈ putL l m ↔ x = m ∨ x ∈ l := by rw [(putL_perm l m).mem_iff]; simp
theorem putL_asc {l : List St} {m : St} (h : Asc l) (hn : ∀ x ∈ l, x.far ≠ m.far) : Asc (putL l m) := by
  induction l with
  | nil => exact List.pairwise_singleton _ _
  | cons s l ih =>
    simp only [putL]
    obtain ⟨h1, h2⟩ := List.pairwise_cons.1 h
    split
    · rename_i hlt
      refine List.pairwise_cons.2 ⟨fun x hx => ?_, ih h2 (fun x hx => hn x (by simp [hx]))⟩
      rcases mem_putL.1 hx with rfl | hx
      · exact hlt
      · exact h1 x hx
    · rename_i hlt
      have := hn s (by simp)
      refine List.pairwise_cons.2 ⟨fun x hx => ?_, h⟩
      rcases List.mem_cons.1 hx with rfl | hx
      · omega
      · have := h1 x hx; omega
theorem mem_resL {l : List St} {i : Nat} {q : Int} {k : Nat} {x : St} : x ∈ resL l i q k ↔ ∃ j, j < k ∧ j ≠ i ∧ (stAt l j).far ≠ q ∧ x = stAt l j := by
  induction k with
  | zero => simp [resL]
  | succ k ih =>
    simp only [resL, List.mem_append, ih]
    constructor
    · rintro (⟨j, hj, h⟩ | h)
      · exact ⟨j, by omega, h⟩
      · split at h
        · simp at h
        · rename_i hn
          simp only [List.mem_singleton] at h
          exact ⟨k, by omega, fun he => hn (.inl he), fun he => hn (.inr he), h⟩
    · rintro ⟨j, hj, h1, h2, h3⟩
      rcases Nat.lt_succ_iff_lt_or_eq.1 hj with hj | rfl
      · exact .inl ⟨j, hj, h1, h2, h3⟩
      · refine .inr ?_
        rw [if_neg (by rintro (h | h) <;> contradiction)]
        simpa using h3
/-- squares go up -/
def Up (l : List St) : Prop := ∀ i, i < l.length → 0 < i → (stAt l (i - 1)).far < (stAt l i).far
theorem Up.lt {l : List St} (h : Up l) {j k : Nat} (hjk : j < k) (hk : k < l.length) : (stAt l j).far < (stAt l k).far := by
  induction k with
  | zero => omega
  | succ k ih =>
    have h1 := h (k + 1) hk (by omega)
    simp only [Nat.add_sub_cancel] at h1
    by_cases he : j = k
    · subst he; exact h1
    · have := ih (by omega) (by omega)
      omega
theorem Up.inj {l : List St} (h : Up l) {j k : Nat} (hj : j < l.length) (hk : k < l.length) (he : (stAt l j).far = (stAt l k).far) : j = k := by
  rcases Nat.lt_trichotomy j k with h1 | h1 | h1
  · have := h.lt h1 hk; omega
  · exact h1
  · have := h.lt h1 hj; omega
theorem resL_asc {l : List St} (h : Up l) (i : Nat) (q : Int) : ∀ k, k ≤ l.length → Asc (resL l i q k) := by
  intro k hk
  induction k with
  | zero => exact List.Pairwise.nil
  | succ k ih =>
    simp only [resL]
    refine List.pairwise_append.2 ⟨ih (by omega), ?_, fun a ha b hb => ?_⟩
    · split
      · exact List.Pairwise.nil
      · exact List.pairwise_singleton _ _
    · obtain ⟨j, hj, _, _, rfl⟩ := mem_resL.1 ha
      split at hb
      · simp at hb
      · simp only [List.mem_singleton] at hb
        subst hb
        exact h.lt hj (by omega)
theorem doL_asc {l : List St} (h : Up l) (i : Nat) (q : Int) : Asc (doL l i q) :=
  putL_asc (resL_asc h i q _ (Nat.le_refl _)) (fun x hx => by obtain ⟨j, _, _, h2, rfl⟩ := mem_resL.1 hx; exact h2)
theorem aftL_perm (l : List St) (i : Nat) (q : Int) : ∀ k, (i < k → (aftL l i q k).Perm (⟨(stAt l i).dx, (stAt l i).dy, q⟩ :: resL l i q k)) ∧ (k ≤ i → aftL l i q k = resL l i q k) := by
  intro k
  induction k with
  | zero => exact ⟨fun h => absurd h (by omega), fun _ => rfl⟩
  | succ k ih =>
    obtain ⟨h1, h2⟩ := ih
    refine ⟨fun h => ?_, fun h => ?_⟩
    · simp only [aftL, resL]
      by_cases he : k = i
      · rw [if_pos he, if_pos (.inl he), h2 (by omega), List.append_nil]
        exact List.perm_append_singleton _ _
      · rw [if_neg he]
        have hp := h1 (by omega)
        by_cases hq : (stAt l k).far = q
        · rw [if_pos hq, if_pos (.inr hq)]; simpa using hp
        · rw [if_neg hq, if_neg (by rintro (h | h) <;> contradiction)]
          exact hp.append_right _
    · simp only [aftL, resL]
      rw [h2 (by omega), if_neg (by omega)]
      by_cases hq : (stAt l k).far = q
      · rw [if_pos hq, if_pos (.inr hq)]
      · rw [if_neg hq, if_neg (fun h => h.elim (fun h => by omega) hq)]
theorem aft_do {l : List St} {i : Nat} {q : Int} (hi : i < l.length) : (aftL l i q l.length).Perm (doL l i q) :=
  ((aftL_perm l i q l.length).1 hi).trans (putL_perm _ _).symm
theorem aftL_len (l : List St) (i : Nat) (q : Int) : ∀ k, (aftL l i q k).length ≤ k := by
  intro k
  induction k with
  | zero => exact Nat.le_refl _
  | succ k ih =>
    simp only [aftL, List.length_append]
    split
    · simp; omega
    · split
      · simp; omega
      · simp; omega
/-- two lists of the same men, one ascending without ties, the other without a descent: they are one -/
theorem asc_unique {a b : List St} (h : a.Perm b) (hb : Asc b) (ha : a.Pairwise fun x y => x.far ≤ y.far) : a = b := by
  have ha' : Asc a := by
    have hnd : b.Pairwise fun x y => x.far ≠ y.far := hb.imp (fun h => by omega)
    have hna : a.Pairwise fun x y => x.far ≠ y.far := (h.pairwise_iff (R := fun x y : St => x.far ≠ y.far) (fun {x y} hxy => fun he => hxy he.symm)).2 hnd
    exact (List.pairwise_and_iff.2 ⟨ha, hna⟩).imp (fun h => by omega)
  induction a generalizing b with
  | nil => exact (List.nil_perm.1 h).symm
  | cons x a ih =>
    cases b with
    | nil => exact absurd h (by simp)
    | cons y b =>
      obtain ⟨ha1, ha2⟩ := List.pairwise_cons.1 ha'
      obtain ⟨hb1, hb2⟩ := List.pairwise_cons.1 hb
      have hx : x ∈ y :: b := (h.mem_iff).1 (by simp)
      have hy : y ∈ x :: a := (h.mem_iff).2 (by simp)
      have he : x = y := by
        rcases List.mem_cons.1 hx with h1 | h1
        · exact h1
        · rcases List.mem_cons.1 hy with h2 | h2
          · exact h2.symm
          · have := hb1 x h1
            have := ha1 y h2
            omega
      subst he
      rw [ih ((List.perm_cons _).1 h) hb2 (List.pairwise_cons.1 ha).2 ha2]

/-- whom a count of kings counts -/
def isK (ks : List Kd) (o : Int) (m : St) : Bool := decide (m.dy = o ∧ m.dx = kingV ks)
theorem cntK_countP (ks : List Kd) (l : List St) (o : Int) : cntK ks l o l.length = (l.countP (isK ks o) : Int) := by
  have h : ∀ k, k ≤ l.length → cntK ks l o k = ((l.take k).countP (isK ks o) : Int) := by
    intro k hk
    induction k with
    | zero => simp [cntK]
    | succ k ih =>
      rw [List.take_succ_eq_append_getElem (by omega), List.countP_append, cntK, ih (by omega), stAt_lt (by omega)]
      simp only [List.countP_singleton, isK, decide_eq_true_eq]
      split <;> simp
  rw [h _ (Nat.le_refl _), List.take_length]
theorem aftL_cnt {ks : List Kd} {l : List St} {i : Nat} {q o : Int} (hk : ∀ j, j < l.length → j ≠ i → (stAt l j).far = q → (stAt l j).dx ≠ kingV ks) : ∀ k, k ≤ l.length → ((aftL l i q k).countP (isK ks o) : Int) = cntK ks l o k := by
  intro k hkl
  induction k with
  | zero => simp [aftL, cntK]
  | succ k ih =>
    have h := ih (by omega)
    simp only [aftL, cntK, List.countP_append]
    by_cases hki : k = i
    · subst hki
      rw [if_pos rfl]
      simp only [List.countP_singleton, isK, decide_eq_true_eq]
      split <;> simp [h]
    · rw [if_neg hki]
      by_cases hq : (stAt l k).far = q
      · have hd := hk k (by omega) hki hq
        rw [if_pos hq, if_neg (fun hc => hd hc.2)]
        simpa using h
      · rw [if_neg hq]
        simp only [List.countP_singleton, isK, decide_eq_true_eq]
        split <;> simp [h]
theorem doL_cnt {ks : List Kd} {l : List St} {i : Nat} {q o : Int} (hi : i < l.length) (hk : ∀ j, j < l.length → j ≠ i → (stAt l j).far = q → (stAt l j).dx ≠ kingV ks) : cntK ks (doL l i q) o (doL l i q).length = cntK ks l o l.length := by
  rw [cntK_countP, ← (aft_do hi).countP_eq, aftL_cnt hk _ (Nat.le_refl _)]
theorem doL_len {l : List St} {i : Nat} {q : Int} (hi : i < l.length) : (doL l i q).length ≤ l.length := by
  rw [← (aft_do hi).length_eq]; exact aftL_len _ _ _ _
theorem mem_doL {l : List St} {i : Nat} {q : Int} {x : St} : x ∈ doL l i q ↔ x = ⟨(stAt l i).dx, (stAt l i).dy, q⟩ ∨ ∃ j, j < l.length ∧ j ≠ i ∧ (stAt l j).far ≠ q ∧ x = stAt l j := by
  unfold doL; rw [mem_putL, mem_resL]
theorem stAt_mem {l : List St} {i : Nat} (h : i < l.length) : stAt l i ∈ l := by rw [stAt_lt h]; exact List.getElem_mem h
theorem asc_up {l : List St} (h : Asc l) : Up l := fun i hi h0 => by
  rw [stAt_lt hi, stAt_lt (show i - 1 < l.length by omega)]
  exact List.pairwise_iff_getElem.1 h _ _ _ _ (by omega)
theorem shapeB_up {side t : Int} {ks : List Kd} {l : List St} (h : shapeB side ks t l = true) : Up l := fun i hi h0 => (((shapeB_facts h).2.2.2.2 i hi).2.2.2) h0
/-- the men behind a move that takes no king are in shape -/
theorem doL_shape {side t t' : Int} {ks : List Kd} {l : List St} {i : Nat} {q : Int} (h : shapeB side ks t l = true) (ht : 0 ≤ t' ∧ t' ≤ 1) (hi : i < l.length) (hq : 0 ≤ q ∧ q < side * side)
    (hk : ∀ j, j < l.length → j ≠ i → (stAt l j).far = q → (stAt l j).dx ≠ kingV ks) : shapeB side ks t' (doL l i q) = true := by
  have hup := asc_up (doL_asc (shapeB_up h) i q)
  obtain ⟨_, h2, h3, h4, h5⟩ := shapeB_facts h
  have hlen := doL_len (q := q) hi
  unfold shapeB
  simp only [Bool.and_eq_true, decide_eq_true_eq, List.all_eq_true, List.mem_range]
  refine ⟨⟨⟨⟨decide_eq_true ht, by omega⟩, fun k hkl => ?_⟩, by rw [doL_cnt hi hk]; exact h3⟩, by rw [doL_cnt hi hk]; exact h4⟩
  have hm : (0 ≤ (stAt (doL l i q) k).dx ∧ (stAt (doL l i q) k).dx < ks.length) ∧ (0 ≤ (stAt (doL l i q) k).dy ∧ (stAt (doL l i q) k).dy ≤ 1) ∧ (0 ≤ (stAt (doL l i q) k).far ∧ (stAt (doL l i q) k).far < side * side) := by
    rcases mem_doL.1 (stAt_mem hkl) with he | ⟨j, hj, _, _, he⟩
    · rw [he]; exact ⟨(h5 i hi).1, (h5 i hi).2.1, hq⟩
    · rw [he]; exact ⟨(h5 j hj).1, (h5 j hj).2.1, (h5 j hj).2.2.1⟩
  obtain ⟨⟨m1, m2⟩, ⟨m3, m4⟩, m5, m6⟩ := hm
  unfold goodM inB
  simp only [Bool.and_eq_true, Bool.or_eq_true, decide_eq_true_eq]
  refine ⟨⟨⟨⟨m1, by omega⟩, m3, m4⟩, m5, by omega⟩, ?_⟩
  rcases Nat.eq_zero_or_pos k with h0 | h0
  · exact .inl h0
  · exact .inr (hup k hkl h0)

/-! the squares that a man attacks lie on the board -/
theorem rayL_in {s : Int} {l : List St} {dx dy : Int} (hs : s = 2 ∨ s = 3 ∨ s = 4) (n : Nat) : ∀ a q, 0 ≤ a ∧ a < s * s → q ∈ rayL s l dx dy n a → 0 ≤ q ∧ q < s * s := by
  induction n with
  | zero => intro a q _ h; simp [rayL] at h
  | succ n ih =>
    intro a q ha h
    by_cases hn : nextV s a dx dy < 0
    · rw [rayL_off hn] at h; simp at h
    · have hb : 0 ≤ nextV s a dx dy ∧ nextV s a dx dy < s * s := by
        have := nextV_bd (dx := dx) (dy := dy) hs ha
        omega
      by_cases hm : manV l (nextV s a dx dy) = -1
      · rw [rayL_on hn hm] at h
        rcases List.mem_cons.1 h with rfl | h
        · exact hb
        · exact ih _ _ hb h
      · rw [rayL_last hn hm] at h
        obtain rfl := List.mem_singleton.1 h
        exact hb
theorem hitsB_in {s : Int} {l steps : List St} {a q : Int} (hs : s = 2 ∨ s = 3 ∨ s = 4) (ha : 0 ≤ a ∧ a < s * s) (h : hitsB s l steps a q = true) : 0 ≤ q ∧ q < s * s := by
  obtain ⟨j, _, hj⟩ := mem_attL.1 (of_decide_eq_true h)
  exact rayL_in hs _ _ _ ha hj

/-! which moves are legal in a valid position -/
/-- what stands where a man goes may be taken -/
def freeB (ks : List Kd) (t : Int) (l : List St) (q : Int) : Bool := decide (manV l q = -1) || (decide ((stAt l (manV l q).toNat).dy ≠ t) && decide ((stAt l (manV l q).toNat).dx ≠ kingV ks))
def mayB (side : Int) (ks : List Kd) (t : Int) (l : List St) (i : Nat) (q : Int) : Bool := freeB ks t l q && !checkB side ks (doL l i q) t
def canB (side : Int) (ks : List Kd) (t : Int) (l : List St) (f q : Int) : Bool :=
  decide (manV l f ≠ -1) && decide ((stAt l (manV l f).toNat).dy = t) && hitsB side l (kOf ks (stAt l (manV l f).toNat)).steps (stAt l (manV l f).toNat).far q && mayB side ks t l (manV l f).toNat q
theorem manV_far {l : List St} {q : Int} (h : manV l q ≠ -1) : (manV l q).toNat < l.length ∧ (stAt l (manV l q).toNat).far = q ∧ 0 ≤ manV l q := by
  unfold manV at h ⊢
  cases hf : l.findIdx? (fun m => decide (m.far = q)) with
  | none => rw [hf] at h; exact absurd rfl h
  | some i =>
    obtain ⟨hi, h1, _⟩ := List.findIdx?_eq_some_iff_getElem.1 hf
    have h1 := of_decide_eq_true h1
    simp only [Int.toNat_natCast]
    exact ⟨hi, by rw [stAt_lt hi]; exact h1, by omega⟩
theorem manV_miss {l : List St} {q : Int} (h : manV l q = -1) : ∀ j, j < l.length → (stAt l j).far ≠ q := fun j hj he => by
  unfold manV at h
  cases hf : l.findIdx? (fun m => decide (m.far = q)) with
  | some i => rw [hf] at h; simp at h
  | none =>
    have := List.findIdx?_eq_none_iff.1 hf (stAt l j) (stAt_mem hj)
    simp [he] at this
theorem freeB_king {ks : List Kd} {t : Int} {l : List St} {q : Int} {i : Nat} (hu : Up l) (h : freeB ks t l q = true) : ∀ j, j < l.length → j ≠ i → (stAt l j).far = q → (stAt l j).dx ≠ kingV ks := fun j hj _ he => by
  have hm : manV l q ≠ -1 := fun hm => manV_miss hm j hj he
  obtain ⟨h1, h2, _⟩ := manV_far hm
  obtain rfl := hu.inj hj h1 (he.trans h2.symm)
  unfold freeB at h
  simp only [Bool.or_eq_true, Bool.and_eq_true, decide_eq_true_eq] at h
  exact (h.resolve_left hm).2
end Go.Proofs.YtcgfklljbblhlaaGreatDoor.Ko
