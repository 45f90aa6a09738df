/- Positions as text: values (no program is named). -/
import Derived.Test.YtnjhcjjeehccbaaDoorPu
import Derived.Test.YtnjhcjjeehccbaaDoorPk
namespace Go.Proofs.YtnjhcjjeehccbaaDoor.Ko
open Go.ChangeShapes Go.WideShapes Go.ChangeAt Go.RowKit Base Sq
set_option linter.unusedVariables false
set_option maxRecDepth 20000

/-- a text by its bytes -/
def txt (l : List UInt8) : ByteArray := ⟨l.toArray⟩
theorem txt_cat (a b : List UInt8) : txt a ++ txt b = txt (a ++ b) := by
  apply ByteArray.ext
  simp [txt, ByteArray.data_append]
theorem txt_size (a : List UInt8) : (txt a).size = a.length := by simp [txt, ByteArray.size]
theorem txt_inj {a b : List UInt8} (h : txt a = txt b) : a = b := by
  have := congrArg (fun x : ByteArray => x.data.toList) h
  simpa [txt] using this
theorem putS_txt (c r : Int) : putS c r = txt [UInt8.ofNat (97 + c.toNat), UInt8.ofNat (49 + r.toNat)] := rfl
/-- the letter of a man -/
def nameN (ks : List Kd) (s : St) : Int := (kOf ks s).name + (if s.dy = 1 then 32 else 0)
def nameU (ks : List Kd) (s : St) : UInt8 := UInt8.ofNat (nameN ks s).toNat
def sqU (side a : Int) : List UInt8 := [UInt8.ofNat (97 + (a % side).toNat), UInt8.ofNat (49 + (a / side).toNat)]
def manU (side : Int) (ks : List Kd) (s : St) : List UInt8 := nameU ks s :: sqU side s.far
/-- the first k men -/
def menU (side : Int) (ks : List Kd) (l : List St) : Nat → List UInt8
  | 0 => []
  | k + 1 => menU side ks l k ++ 32 :: manU side ks (stAt l k)
def digU (t : Int) : UInt8 := UInt8.ofNat (48 + t.toNat)
def posUK (side : Int) (ks : List Kd) (t : Int) (l : List St) (k : Nat) : List UInt8 := digU t :: menU side ks l k
def posU (side : Int) (ks : List Kd) (t : Int) (l : List St) : List UInt8 := posUK side ks t l l.length
def posT (side : Int) (ks : List Kd) (t : Int) (l : List St) : List UInt8 := if posB side ks t l = true then posU side ks t l else []
theorem menU_len (side : Int) (ks : List Kd) (l : List St) : ∀ k, (menU side ks l k).length = 4 * k := by
  intro k
  induction k with
  | zero => rfl
  | succ k ih => simp only [menU, List.length_append, ih, manU, sqU, List.length_cons, List.length_nil]; omega
theorem posUK_len (side : Int) (ks : List Kd) (t : Int) (l : List St) (k : Nat) : (posUK side ks t l k).length = 4 * k + 1 := by
  simp only [posUK, List.length_cons, menU_len]
theorem posUK_next (side : Int) (ks : List Kd) (t : Int) (l : List St) (k : Nat) : posUK side ks t l k ++ 32 :: manU side ks (stAt l k) = posUK side ks t l (k + 1) := rfl
/-- the names of valid rules: great letters that rise -/
theorem rulesOk_names {side : Int} {ks : List Kd} (h : rulesOk side ks = true) : (∀ i, i < ks.length → 65 ≤ (kAt ks i).name ∧ (kAt ks i).name ≤ 90) ∧ ∀ i j, i < j → j < ks.length → (kAt ks i).name < (kAt ks j).name := by
  unfold rulesOk at h
  simp only [Bool.and_eq_true, List.all_eq_true, List.mem_range] at h
  obtain ⟨⟨_, h3⟩, _⟩ := h
  have step : ∀ i, i + 1 < ks.length → (kAt ks i).name < (kAt ks (i + 1)).name := fun i hi => by
    have := h3 (i + 1) hi
    unfold goodK at this
    simp only [Bool.and_eq_true, Bool.or_eq_true, decide_eq_true_eq] at this
    rcases this.2 with h | h
    · omega
    · simpa using h
  refine ⟨fun i hi => ?_, fun i j hij => ?_⟩
  · have := h3 i hi
    unfold goodK kOk kindOk at this
    simp only [Bool.and_eq_true] at this
    have h1 := of_decide_eq_true this.1.1.1
    omega
  · induction j with
    | zero => omega
    | succ j ih =>
      intro hj
      have h1 := step j hj
      by_cases he : i = j
      · subst he; exact h1
      · have := ih (by omega) (by omega); omega
theorem name_bd {side : Int} {ks : List Kd} (h : rulesOk side ks = true) {s : St} (hs : 0 ≤ s.dx ∧ s.dx < ks.length) : 65 ≤ (kOf ks s).name ∧ (kOf ks s).name ≤ 90 := (rulesOk_names h).1 _ (by omega)
end Go.Proofs.YtnjhcjjeehccbaaDoor.Ko
