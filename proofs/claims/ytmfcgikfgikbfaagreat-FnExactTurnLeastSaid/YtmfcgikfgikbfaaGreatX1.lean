/- The least of the turned lists: values (no program is named). The order of lists of men: compareMan and slices.CompareFunc of the program, l6Less of the model. The order of lists of men: l6Less of the model. TurnLeast of the model. TurnLeast of the program. The walk of the exact law FnExactTurnLeast. -/
import Derived.Test.YtmfcgikfgikbfaaGreatPb
import Derived.Test.YtmfcgikfgikbfaaGreatTw
import Derived.Test.YtmfcgikfgikbfaaGreatRf2
import Derived.Test.YtmfcgikfgikbfaaGreatPk
import Derived.Test.YtmfcgikfgikbfaaGreatAg
import Derived.Deep.RegionHeld3
import Derived.Test.YtmfcgikfgikbfaaGreatTm
import Derived.Test.YtmfcgikfgikbfaaGreatPa
import Derived.Test.YtmfcgikfgikbfaaGreatTq
import Derived.WalkSpells
import Derived.Test.YtmfcgikfgikbfaaGreatOpp
import Derived.Test.YtmfcgikfgikbfaaGreatMm
import Derived.Deep.Cut
namespace Go.Proofs.YtmfcgikfgikbfaaGreat.Ko
open Go.ChangeShapes Go.WideShapes Go.ChangeAt Go.RowKit Base Sq
set_option linter.unusedVariables false
set_option maxRecDepth 20000

/-- the order of men: by square, kind, owner -/
def ordM (a b : St) : Int := orV (cmpV a.far b.far) (orV (cmpV a.dx b.dx) (cmpV a.dy b.dy))
def lexL : List St → List St → Bool
  | a :: l, b :: l' => if a.far ≠ b.far then decide (a.far < b.far) else if a.dx ≠ b.dx then decide (a.dx < b.dx) else if a.dy ≠ b.dy then decide (a.dy < b.dy) else lexL l l'
  | _, _ => false
def ordL : List St → List St → Int
  | a :: l, b :: l' => if ordM a b ≠ 0 then ordM a b else ordL l l'
  | [], _ :: _ => -1
  | _ :: _, [] => 1
  | [], [] => 0
theorem cmpV_zero {a b : Int} : cmpV a b = 0 ↔ a = b := by unfold cmpV; split <;> (try split) <;> omega
theorem cmpV_neg {a b : Int} : cmpV a b < 0 ↔ a < b := by unfold cmpV; split <;> (try split) <;> omega
theorem ordM_zero {a b : St} : ordM a b = 0 ↔ a.far = b.far ∧ a.dx = b.dx ∧ a.dy = b.dy := by
  unfold ordM orV
  by_cases h1 : cmpV a.far b.far = 0
  · rw [if_pos h1]
    by_cases h2 : cmpV a.dx b.dx = 0
    · rw [if_pos h2, cmpV_zero]; exact ⟨fun h => ⟨cmpV_zero.1 h1, cmpV_zero.1 h2, h⟩, fun h => h.2.2⟩
    · rw [if_neg h2]; exact ⟨fun h => absurd h h2, fun h => absurd (cmpV_zero.2 h.2.1) h2⟩
  · rw [if_neg h1]; exact ⟨fun h => absurd h h1, fun h => absurd (cmpV_zero.2 h.1) h1⟩
theorem ordM_lex {a b : St} {l l' : List St} (h : ordM a b ≠ 0) : ordM a b < 0 ↔ lexL (a :: l) (b :: l') = true := by
  have h' := h
  rw [Ne, ordM_zero] at h'
  by_cases h1 : a.far = b.far
  · by_cases h2 : a.dx = b.dx
    · have h3 : a.dy ≠ b.dy := fun h3 => h' ⟨h1, h2, h3⟩
      have e : ordM a b = cmpV a.dy b.dy := by unfold ordM orV; rw [if_pos (cmpV_zero.2 h1), if_pos (cmpV_zero.2 h2)]
      rw [e, cmpV_neg]; simp only [lexL]; rw [if_neg (fun h => h h1), if_neg (fun h => h h2), if_pos h3, decide_eq_true_eq]
    · have e : ordM a b = cmpV a.dx b.dx := by unfold ordM orV; rw [if_pos (cmpV_zero.2 h1), if_neg (fun h => h2 (cmpV_zero.1 h))]
      rw [e, cmpV_neg]; simp only [lexL]; rw [if_neg (fun h => h h1), if_pos h2, decide_eq_true_eq]
  · have e : ordM a b = cmpV a.far b.far := by unfold ordM orV; rw [if_neg (fun h => h1 (cmpV_zero.1 h))]
    rw [e, cmpV_neg]; simp only [lexL]; rw [if_pos h1, decide_eq_true_eq]
theorem lexL_same {a b : St} {l l' : List St} (h : ordM a b = 0) : lexL (a :: l) (b :: l') = lexL l l' := by
  obtain ⟨h1, h2, h3⟩ := ordM_zero.1 h
  simp only [lexL]
  rw [if_neg (fun h => h h1), if_neg (fun h => h h2), if_neg (fun h => h h3)]
theorem ordL_ne {a b : St} {l l' : List St} (h : ordM a b ≠ 0) : ordL (a :: l) (b :: l') = ordM a b := by simp only [ordL]; rw [if_pos h]
theorem ordL_eq {a b : St} {l l' : List St} (h : ordM a b = 0) : ordL (a :: l) (b :: l') = ordL l l' := by simp only [ordL]; rw [if_neg (fun e => e h)]
theorem ordL_lex' : ∀ (l l' : List St), l.length = l'.length → (ordL l l' < 0 ↔ lexL l l' = true) := by
  intro l
  induction l with
  | nil => intro l' h; cases l' with
    | nil => simp [ordL, lexL]
    | cons b l' => simp at h
  | cons a l ih => intro l' h; cases l' with
    | nil => simp at h
    | cons b l' =>
      by_cases hc : ordM a b = 0
      · rw [lexL_same hc, ordL_eq hc]; exact ih l' (by simpa using h)
      · rw [ordL_ne hc]; exact ordM_lex hc
theorem ordL_lex {l l' : List St} (h : l.length = l'.length) : decide (ordL l l' < 0) = lexL l l' := by
  rw [Bool.eq_iff_iff, decide_eq_true_eq]; exact ordL_lex' l l' h
theorem drop_at {l : List St} {k : Nat} (h : k < l.length) : l.drop k = stAt l k :: l.drop (k + 1) := by
  rw [stAt_lt h]; exact List.drop_eq_getElem_cons h
theorem ordL_hit {l l' : List St} {k : Nat} (h : k < l.length) (h' : k < l'.length) (hc : ordM (stAt l k) (stAt l' k) ≠ 0) : ordL (l.drop k) (l'.drop k) = ordM (stAt l k) (stAt l' k) := by
  rw [drop_at h, drop_at h']; exact ordL_ne hc
theorem ordL_same {l l' : List St} {k : Nat} (h : k < l.length) (h' : k < l'.length) (hc : ordM (stAt l k) (stAt l' k) = 0) : ordL (l.drop k) (l'.drop k) = ordL (l.drop (k + 1)) (l'.drop (k + 1)) := by
  rw [drop_at h, drop_at h']; exact ordL_eq hc
theorem ordL_end {l l' : List St} (h : l.length = l'.length) : ordL (l.drop l.length) (l'.drop l.length) = 0 := by
  rw [List.drop_length, h, List.drop_length]; rfl
/-- one step of the model's comparison -/
theorem lexL_far {l l' : List St} {k : Nat} (h : k < l.length) (h' : k < l'.length) (hc : (stAt l k).far ≠ (stAt l' k).far) : lexL (l.drop k) (l'.drop k) = decide ((stAt l k).far < (stAt l' k).far) := by
  rw [drop_at h, drop_at h']; simp only [lexL]; rw [if_pos hc]
theorem lexL_kd {l l' : List St} {k : Nat} (h : k < l.length) (h' : k < l'.length) (hc : (stAt l k).far = (stAt l' k).far) (hd : (stAt l k).dx ≠ (stAt l' k).dx) : lexL (l.drop k) (l'.drop k) = decide ((stAt l k).dx < (stAt l' k).dx) := by
  rw [drop_at h, drop_at h']; simp only [lexL]; rw [if_neg (by simp [hc]), if_pos hd]
theorem lexL_ow {l l' : List St} {k : Nat} (h : k < l.length) (h' : k < l'.length) (hc : (stAt l k).far = (stAt l' k).far) (hd : (stAt l k).dx = (stAt l' k).dx) (he : (stAt l k).dy ≠ (stAt l' k).dy) : lexL (l.drop k) (l'.drop k) = decide ((stAt l k).dy < (stAt l' k).dy) := by
  rw [drop_at h, drop_at h']; simp only [lexL]; rw [if_neg (by simp [hc]), if_neg (by simp [hd]), if_pos he]
theorem lexL_next {l l' : List St} {k : Nat} (h : k < l.length) (h' : k < l'.length) (hc : (stAt l k).far = (stAt l' k).far) (hd : (stAt l k).dx = (stAt l' k).dx) (he : (stAt l k).dy = (stAt l' k).dy) : lexL (l.drop k) (l'.drop k) = lexL (l.drop (k + 1)) (l'.drop (k + 1)) := by
  rw [drop_at h, drop_at h']; simp only [lexL]; rw [if_neg (by simp [hc]), if_neg (by simp [hd]), if_neg (by simp [he])]
theorem lexL_end (l l' : List St) : lexL (l.drop l.length) (l'.drop l.length) = false := by
  rw [List.drop_length]; cases l'.drop l.length <;> rfl
/-- the least behind the turns 0 to k -/
def leastK (side : Int) (ks : List Kd) (l : List St) : Nat → List St
  | 0 => tsL side 0 l
  | k + 1 => if evenB ((k + 1 : Nat) : Int) ks && lexL (tsL side ((k + 1 : Nat) : Int) l) (leastK side ks l k) then tsL side ((k + 1 : Nat) : Int) l else leastK side ks l k
theorem leastK_len (side : Int) (ks : List Kd) (l : List St) : ∀ k, (leastK side ks l k).length = l.length := by
  intro k
  induction k with
  | zero => exact tsL_len side 0 l
  | succ k ih =>
    simp only [leastK]
    split
    · exact tsL_len _ _ _
    · exact ih
def ltT (side : Int) (ks : List Kd) (t : Int) (l : List St) : Int := if posB side ks t l = true then t else 0
def ltL (side : Int) (ks : List Kd) (t : Int) (l : List St) : List St := if posB side ks t l = true then leastK side ks l 7 else []
theorem ltL_len (side : Int) (ks : List Kd) (t : Int) (l : List St) : (ltL side ks t l).length ≤ l.length := by
  unfold ltL; split
  · rw [leastK_len]; omega
  · simp
theorem even_zero (ks : List Kd) : evenB 0 ks = true := evenB_good fun i hi => evenK_good fun j hj => by
  unfold evenAt
  refine hasB_yes hj ?_
  unfold turnSt sameB rotS
  simp
end Go.Proofs.YtmfcgikfgikbfaaGreat.Ko

namespace Go.Proofs.YtmfcgikfgikbfaaGreat.Ko
open Go.ChangeShapes Go.WideShapes Go.ChangeAt Go.RowKit Base Sq
set_option linter.unusedVariables false
set_option maxRecDepth 20000
attribute [local irreducible] wpQuiet

theorem or3_any (g c : Nat) (x y z : Int) (w : World) (h0 : w.cell? ⟨g, 0, none⟩ = some (.int .i64 x)) (h1 : w.cell? ⟨g, 1, none⟩ = some (.int .i64 y)) (h2 : w.cell? ⟨g, 2, none⟩ = some (.int .i64 z)) :
    Calls Tryz.prog 78 #[.slice (some ⟨g, 0, none⟩) 3 c] w fun e w' => e = .returned (.int .i64 (orV x (orV y z))) ∧ w = w' := by
  go_enter Tryz.func78, Tryz.ntmps78
  go_wp2_with fail
  go_loopw [8] (fun i wr => ∃ k : Nat, k ≤ 3 ∧ i = .int .i64 k ∧ wr = w ∧ (0 < k → x = 0) ∧ (1 < k → y = 0) ∧ (2 < k → z = 0)) (fun i _ => 3 - (intOf i).toNat)
  case atStart => exact ⟨0, by omega, rfl, rfl, (fun h => by omega), (fun h => by omega), (fun h => by omega)⟩
  case round =>
    obtain ⟨k, hk, rfl, rfl, hx, hy, hzz⟩ := hrel
    obtain rfl | rfl | rfl | rfl : k = 0 ∨ k = 1 ∨ k = 2 ∨ k = 3 := by omega
    · by_cases hz : x = 0
      · subst hz
        go_wp2_with fail
        go_roundw
        case rel => refine ⟨1, by omega, by go_num, ?_⟩; simp
        case measure => simp [intOf]
      · go_wp2_with fail
        go_ret
        exact ⟨by rw [show orV x (orV y z) = x from if_neg hz]; rfl, rfl⟩
    · obtain rfl := hx (by omega)
      by_cases hz : y = 0
      · subst hz
        go_wp2_with fail
        go_roundw
        case rel => refine ⟨2, by omega, by go_num, ?_⟩; simp
        case measure => simp [intOf]
      · go_wp2_with fail
        go_ret
        exact ⟨by rw [show orV 0 (orV y z) = orV y z from if_pos rfl, show orV y z = y from if_neg hz]; rfl, rfl⟩
    · obtain rfl := hx (by omega)
      obtain rfl := hy (by omega)
      by_cases hz : z = 0
      · subst hz
        go_wp2_with fail
        go_roundw
        case rel => refine ⟨3, by omega, by go_num, ?_⟩; simp
        case measure => simp [intOf]
      · go_wp2_with fail
        go_ret
        exact ⟨by rw [show orV 0 (orV 0 z) = orV 0 z from if_pos rfl, show orV 0 z = z from if_pos rfl]; rfl, rfl⟩
    · have hx0 := hx (by omega)
      have hy0 := hy (by omega)
      have hz0 := hzz (by omega)
      subst hx0
      subst hy0
      subst hz0
      go_wp2_with fail
      go_ret
      exact ⟨rfl, rfl⟩

set_option maxHeartbeats 2000000 in
theorem compareMan_any (k o f k' o' f' : Int) (w : World) :
    Calls Tryz.prog 48 #[.agg #[.int .i64 k, .int .i64 o, .int .i64 f], .agg #[.int .i64 k', .int .i64 o', .int .i64 f']] w fun e w' => e = .returned (.int .i64 (ordM ⟨k, o, f⟩ ⟨k', o', f'⟩)) ∧ Below w.heap.size w w' := by
  go_enter Tryz.func48, Tryz.ntmps48
  go_wp2_with fail
  have hbe : Below w.heap.size w ((w.alloc (.cells #[.int .i64 k, .int .i64 o, .int .i64 f] 84)).alloc (.cells #[.int .i64 k', .int .i64 o', .int .i64 f'] 84)) := (by repeat (first | exact Below.refl _ _ | assumption | (refine Below.alloc ?_ (by first | omega | (simp; done) | (simp; omega)) _) | (refine Below.setCell ?_ (by first | omega | (simp; done) | (simp; omega)) _) | refine Below.drew ?_))
  have p1 := (Blk.new w #[.int .i64 k, .int .i64 o, .int .i64 f] 84).alloc (.cells #[.int .i64 k', .int .i64 o', .int .i64 f'] 84)
  have p2 := Blk.new (w.alloc (.cells #[.int .i64 k, .int .i64 o, .int .i64 f] 84)) #[.int .i64 k', .int .i64 o', .int .i64 f'] 84
  simp only [World.size_alloc] at p2
  generalize hW : (w.alloc _).alloc _ = W at *
  clear hW
  have HS : Hid (∀ w', Below W.heap.size W w' → (w'.cell? ⟨w.heap.size, 0, none⟩ = some (.int .i64 k) ∧ w'.cell? ⟨w.heap.size, 1, none⟩ = some (.int .i64 o) ∧ w'.cell? ⟨w.heap.size, 2, none⟩ = some (.int .i64 f) ∧ w'.cell? ⟨w.heap.size + 1, 0, none⟩ = some (.int .i64 k') ∧ w'.cell? ⟨w.heap.size + 1, 1, none⟩ = some (.int .i64 o') ∧ w'.cell? ⟨w.heap.size + 1, 2, none⟩ = some (.int .i64 f'))) := Lib.hid (fun w' hb => by
    obtain ⟨⟨a0, a1, a2⟩, _⟩ := (p1.below hb p1.lt).at3
    obtain ⟨⟨b0, b1, b2⟩, _⟩ := (p2.below hb p2.lt).at3
    exact ⟨a0, a1, a2, b0, b1, b2⟩)
  have hw : Below W.heap.size W W.drew := (Below.refl _ _).drew
  have hz := hbe.size
  clear p1 p2
  go_region_held3 (fun w' => w'.cell? ⟨w.heap.size, 0, none⟩ = some (.int .i64 k) ∧ w'.cell? ⟨w.heap.size, 1, none⟩ = some (.int .i64 o) ∧ w'.cell? ⟨w.heap.size, 2, none⟩ = some (.int .i64 f) ∧ w'.cell? ⟨w.heap.size + 1, 0, none⟩ = some (.int .i64 k') ∧ w'.cell? ⟨w.heap.size + 1, 1, none⟩ = some (.int .i64 o') ∧ w'.cell? ⟨w.heap.size + 1, 2, none⟩ = some (.int .i64 f'))
    (first
      | exact HS.out _ hw
      | exact HS.out _ (hw.alloc hw.size _))
    (first
      | (go_at_call 79; refine (cmp_any _ _ _).mono ?_; rintro e w' ⟨rfl, rfl⟩)
      | (go_at_call 78; refine (or3_any _ _ (cmpV f f') (cmpV k k') (cmpV o o') _ (by first | (simp; done) | exact (Blk.new W.drew #[.int .i64 (cmpV f f'), .int .i64 (cmpV k k'), .int .i64 (cmpV o o')] 3).at3.1.1) (by first | (simp; done) | exact (Blk.new W.drew #[.int .i64 (cmpV f f'), .int .i64 (cmpV k k'), .int .i64 (cmpV o o')] 3).at3.1.2.1) (by first | (simp; done) | exact (Blk.new W.drew #[.int .i64 (cmpV f f'), .int .i64 (cmpV k k'), .int .i64 (cmpV o o')] 3).at3.1.2.2)).mono ?_; rintro e w' ⟨rfl, rfl⟩))
  all_goals
    go_wp2_with fail
    go_ret
    exact ⟨rfl, hbe.trans ((hw.alloc hw.size _).mono hz)⟩

set_option maxHeartbeats 4000000 in
theorem compareFunc_any (A A' : Option Addr) (c c' : Nat) (l l' : List St) (w : World) (h : IsSteps w w.heap.size A l) (h' : IsSteps w w.heap.size A' l') (hlen : l.length = l'.length) (hl : l.length ≤ 1048576) :
    Calls Tryz.prog 47 #[.slice A l.length c, .slice A' l'.length c', .func (.func 48) #[] #[]] w fun e w' => e = .returned (.int .i64 (ordL l l')) ∧ Below w.heap.size w w' := by
  have HLN := Lib.hid hlen
  rw [← hlen]
  clear hlen
  have HST := Lib.hid (fun (k : Nat) (h : k < l.length) => ordL_same (l := l) (l' := l') h (by rw [← HLN.out]; exact h))
  have HHT := Lib.hid (fun (k : Nat) (h : k < l.length) => ordL_hit (l := l) (l' := l') h (by rw [← HLN.out]; exact h))
  have HEN := Lib.hid (ordL_end HLN.out)
  have H1 := Lib.hid h
  have H2 := Lib.hid h'
  clear h h'
  go_enter Tryz.func47, Tryz.ntmps47
  go_wp2_with fail
  go_loopw [13] (fun i wr => ∃ k : Nat, k ≤ l.length ∧ i = .int .i64 k ∧ Hid (ordL l l' = ordL (l.drop k) (l'.drop k)) ∧ Below w.heap.size w wr) (fun i _ => l.length - (intOf i).toNat)
  case atStart => exact ⟨0, by omega, rfl, Lib.hid rfl, Below.refl _ _⟩
  case round =>
    obtain ⟨k, hk, rfl, hv, hbe⟩ := hrel
    have hz := hbe.size
    by_cases hlt : k < l.length
    · have hlt' : (k : Int) < (l.length : Int) := by omega
      have hge : decide ((l.length : Int) ≤ (k : Int)) = false := decide_eq_false (by omega)
      obtain ⟨b1, o1, rfl, hB1, hc1⟩ := H1.out.below hbe (by omega)
      obtain ⟨b2, o2, rfl, hB2, hc2⟩ := H2.out.below hbe (by rw [← HLN.out]; omega)
      obtain ⟨d0, d1, d2⟩ := hc1 k hlt
      obtain ⟨e0, e1, e2⟩ := hc2 k (by rw [← HLN.out]; exact hlt)
      have hB1' : b1 < wr.heap.size := by omega
      have hB2' : b2 < wr.heap.size := by omega
      have HKL := Lib.hid hlt
      clear hc1 hc2
      go_wp2_with fail
      have hbx : Below w.heap.size w ((wr.alloc (.cells #[.int .i64 (stAt l k).dx, .int .i64 (stAt l k).dy, .int .i64 (stAt l k).far] 84)).alloc (.cells #[.int .i64 (stAt l' k).dx, .int .i64 (stAt l' k).dy, .int .i64 (stAt l' k).far] 84)) := (hbe.alloc hz _).alloc (by simp; omega) _
      generalize hWx : (wr.alloc _).alloc _ = Wx at *
      clear hWx
      refine (compareMan_any _ _ _ _ _ _ _).mono ?_
      rintro e w5 ⟨rfl, hb5⟩
      have hb6 := hbx.trans (hb5.mono hbx.size)
      obtain ⟨v, hv2⟩ : ∃ v, v = ordM ⟨(stAt l k).dx, (stAt l k).dy, (stAt l k).far⟩ ⟨(stAt l' k).dx, (stAt l' k).dy, (stAt l' k).far⟩ := ⟨_, rfl⟩
      have HV := Lib.hid (show v = ordM (stAt l k) (stAt l' k) from hv2)
      rw [← hv2]
      clear hv2 hb5 hbx d0 d1 d2 e0 e1 e2
      by_cases h0 : v = 0
      · have HN := Lib.hid (HST.out k hlt (by rw [← HV.out]; exact h0))
        subst h0
        go_wp2_with fail
        go_roundw
        case rel => exact ⟨k + 1, by omega, by go_num, Lib.hid (hv.out.trans HN.out), hb6⟩
        case measure => simp [intOf]; omega
      · have HN := Lib.hid (HHT.out k hlt (by rw [← HV.out]; exact h0))
        have hd : (v != 0) = true := by simp [h0]
        go_wp2_with fail
        go_ret
        exact ⟨by rw [hv.out, HN.out, ← HV.out]; rfl, hb6⟩
    · obtain rfl : k = l.length := by omega
      go_wp2_with fail
      go_ret
      exact ⟨by rw [hv.out, HEN.out]; rfl, hbe⟩
end Go.Proofs.YtmfcgikfgikbfaaGreat.Ko

namespace Go.Proofs.YtmfcgikfgikbfaaGreat.Ko
open Go.ChangeShapes Go.WideShapes Go.ChangeAt Go.RowKit Base Sq
set_option linter.unusedVariables false
set_option maxRecDepth 20000
attribute [local irreducible] wpQuiet

set_option maxHeartbeats 4000000 in
theorem l6Less_any (t t' : Int) (A A' : Option Addr) (c c' : Nat) (l l' : List St) (w : World) (h : IsSteps w w.heap.size A l) (h' : IsSteps w w.heap.size A' l') (hlen : l.length = l'.length) (hl : l.length ≤ 1048576) :
    Calls Tryz.prog 41 #[.agg #[.int .i64 t, .slice A l.length c], .agg #[.int .i64 t', .slice A' l'.length c']] w fun e w' => e = .returned (.bool (lexL l l')) ∧ Below w.heap.size w w' := by
  have HLN := Lib.hid hlen
  rw [← hlen]
  clear hlen
  have HF := Lib.hid (fun (k : Nat) (h : k < l.length) => lexL_far (l := l) (l' := l') h (by rw [← HLN.out]; exact h))
  have HK := Lib.hid (fun (k : Nat) (h : k < l.length) => lexL_kd (l := l) (l' := l') h (by rw [← HLN.out]; exact h))
  have HW := Lib.hid (fun (k : Nat) (h : k < l.length) => lexL_ow (l := l) (l' := l') h (by rw [← HLN.out]; exact h))
  have HX := Lib.hid (fun (k : Nat) (h : k < l.length) => lexL_next (l := l) (l' := l') h (by rw [← HLN.out]; exact h))
  have HE := Lib.hid (lexL_end l l')
  have H1 := Lib.hid h
  have H2 := Lib.hid h'
  clear h h'
  go_enter Tryz.func41, Tryz.ntmps41
  go_wp2_with fail
  have hb0 : Below w.heap.size w ((w.alloc (.cells #[.int .i64 t, .slice A l.length c] 30)).alloc (.cells #[.int .i64 t', .slice A' l.length c'] 30)) := (by repeat (first | exact Below.refl _ _ | assumption | (refine Below.alloc ?_ (by first | omega | (simp; done) | (simp; omega)) _) | (refine Below.setCell ?_ (by first | omega | (simp; done) | (simp; omega)) _) | refine Below.drew ?_))
  have p1 := (Blk.new w #[.int .i64 t, .slice A l.length c] 30).alloc (.cells #[.int .i64 t', .slice A' l.length c'] 30)
  have p2 := Blk.new (w.alloc (.cells #[.int .i64 t, .slice A l.length c] 30)) #[.int .i64 t', .slice A' l.length c'] 30
  simp only [World.size_alloc] at p2
  generalize hW0 : (w.alloc _).alloc _ = W0 at *
  clear hW0
  go_loopw [5] (fun i wr => ∃ k : Nat, k ≤ l.length ∧ i = .int .i64 k ∧ Hid (lexL l l' = lexL (l.drop k) (l'.drop k)) ∧ Blk wr w.heap.size #[.int .i64 t, .slice A l.length c] 30 ∧ Blk wr (w.heap.size + 1) #[.int .i64 t', .slice A' l.length c'] 30 ∧ Below w.heap.size w wr) (fun i _ => l.length - (intOf i).toNat)
  case atStart => exact ⟨0, by omega, rfl, Lib.hid rfl, p1, p2, hb0⟩
  case round =>
    clear p1 p2 hb0
    obtain ⟨k, hk, rfl, hv, p1, p2, hbe⟩ := hrel
    have hz := hbe.size
    have z1 := p1.lt
    have z2 := p2.lt
    obtain ⟨⟨q0, q1⟩, _⟩ := p1.at2
    obtain ⟨⟨q2, q3⟩, _⟩ := p2.at2
    by_cases hlt : k < l.length
    · have hlt' : (k : Int) < (l.length : Int) := by omega
      obtain ⟨b1, o1, rfl, hB1, hc1⟩ := H1.out.below hbe (by omega)
      obtain ⟨b2, o2, rfl, hB2, hc2⟩ := H2.out.below hbe (by rw [← HLN.out]; omega)
      obtain ⟨d0, d1, d2⟩ := hc1 k hlt
      obtain ⟨e0, e1, e2⟩ := hc2 k (by rw [← HLN.out]; exact hlt)
      have hB1' : b1 < wr.heap.size := by omega
      have hB2' : b2 < wr.heap.size := by omega
      obtain ⟨x0, hx0⟩ : ∃ x, x = (stAt l k).dx := ⟨_, rfl⟩
      obtain ⟨x1, hx1⟩ : ∃ x, x = (stAt l k).dy := ⟨_, rfl⟩
      obtain ⟨x2, hx2⟩ : ∃ x, x = (stAt l k).far := ⟨_, rfl⟩
      obtain ⟨y0, hy0⟩ : ∃ x, x = (stAt l' k).dx := ⟨_, rfl⟩
      obtain ⟨y1, hy1⟩ : ∃ x, x = (stAt l' k).dy := ⟨_, rfl⟩
      obtain ⟨y2, hy2⟩ : ∃ x, x = (stAt l' k).far := ⟨_, rfl⟩
      have F1 := Lib.hid (fun h => HF.out k hlt h)
      have F2 := Lib.hid (fun h => HK.out k hlt h)
      have F3 := Lib.hid (fun h => HW.out k hlt h)
      have F4 := Lib.hid (fun h => HX.out k hlt h)
      rw [← hx0] at d0
      rw [← hx1] at d1
      rw [← hx2] at d2
      rw [← hy0] at e0
      rw [← hy1] at e1
      rw [← hy2] at e2
      rw [← hx0, ← hx1, ← hx2, ← hy0, ← hy1, ← hy2] at F4
      rw [← hx2, ← hy2] at F1
      rw [← hx0, ← hx2, ← hy0, ← hy2] at F2
      rw [← hx0, ← hx1, ← hx2, ← hy0, ← hy1, ← hy2] at F3
      clear hc1 hc2 hx0 hx1 hx2 hy0 hy1 hy2
      have hbx : Below w.heap.size w ((wr.alloc (.cells #[.int .i64 x0, .int .i64 x1, .int .i64 x2] 84)).alloc (.cells #[.int .i64 y0, .int .i64 y1, .int .i64 y2] 84)) := (hbe.alloc hz _).alloc (by simp; omega) _
      have r1 := (p1.alloc (.cells #[.int .i64 x0, .int .i64 x1, .int .i64 x2] 84)).alloc (.cells #[.int .i64 y0, .int .i64 y1, .int .i64 y2] 84)
      have r2 := (p2.alloc (.cells #[.int .i64 x0, .int .i64 x1, .int .i64 x2] 84)).alloc (.cells #[.int .i64 y0, .int .i64 y1, .int .i64 y2] 84)
      by_cases h2 : x2 = y2
      · subst h2
        by_cases h0 : x0 = y0
        · subst h0
          by_cases h1 : x1 = y1
          · subst h1
            have HN := Lib.hid (hv.out.trans (F4.out rfl rfl rfl))
            clear F1 F2 F3 F4
            go_wp2_with fail
            go_roundw
            case rel => exact ⟨k + 1, by omega, by go_num, HN, r1, r2, hbx⟩
            case measure => simp [intOf]; omega
          · have HN := Lib.hid (hv.out.trans (F3.out rfl rfl h1))
            have hd : (x1 != y1) = true := by simp [h1]
            clear F1 F2 F3 F4 h1
            go_wp2_with fail
            go_ret
            exact ⟨by rw [HN.out]; rfl, hbx⟩
        · have HN := Lib.hid (hv.out.trans (F2.out rfl h0))
          have hd : (x0 != y0) = true := by simp [h0]
          clear F1 F2 F3 F4 h0
          go_wp2_with fail
          go_ret
          exact ⟨by rw [HN.out]; rfl, hbx⟩
      · have HN := Lib.hid (hv.out.trans (F1.out h2))
        have hd : (x2 != y2) = true := by simp [h2]
        clear F1 F2 F3 F4 h2
        go_wp2_with fail
        go_ret
        exact ⟨by rw [HN.out]; rfl, hbx⟩
    · obtain rfl : k = l.length := by omega
      go_wp2_with fail
      go_ret
      exact ⟨by rw [hv.out, HE.out]; rfl, hbe⟩
end Go.Proofs.YtmfcgikfgikbfaaGreat.Ko

namespace Go.Proofs.YtmfcgikfgikbfaaGreat.Ko
open Go.ChangeShapes Go.WideShapes Go.ChangeAt Go.RowKit Base Sq
set_option linter.unusedVariables false
set_option maxRecDepth 20000
attribute [local irreducible] wpQuiet

def LtPost (w w' : World) (side : Int) (ks : List Kd) (t : Int) (l : List St) (e : Ending) : Prop :=
  ∃ A c, e = .returned (.agg #[.int .i64 (ltT side ks t l), .slice A (ltL side ks t l).length c]) ∧ MenA w.heap.size w'.heap.size w' A (ltL side ks t l) ∧ Below w.heap.size w w'
theorem lt_no {side : Int} {ks : List Kd} {t : Int} {l : List St} (h : posB side ks t l = false) : ltT side ks t l = 0 ∧ ltL side ks t l = [] := by
  unfold ltT ltL; rw [h]; exact ⟨rfl, rfl⟩
theorem lt_yes {side : Int} {ks : List Kd} {t : Int} {l : List St} (h : posB side ks t l = true) : ltT side ks t l = t ∧ ltL side ks t l = leastK side ks l 7 := by
  unfold ltT ltL; rw [h]; exact ⟨rfl, rfl⟩
theorem leastK_step {side : Int} {ks : List Kd} {l : List St} {n : Nat} (h : 1 ≤ n) : leastK side ks l (n + 1 - 1) = if evenB (n : Int) ks && lexL (tsL side (n : Int) l) (leastK side ks l (n - 1)) then tsL side (n : Int) l else leastK side ks l (n - 1) := by
  obtain ⟨m, rfl⟩ : ∃ m, n = m + 1 := ⟨n - 1, by omega⟩
  rfl
theorem menA_off2 {lo hi : Nat} {w : World} {A : Option Addr} {l : List St} (h : MenA lo hi w A l) {b : Nat} (x y : Value) (ha : b < lo ∨ hi ≤ b) : MenA lo hi ((w.setCell ⟨b, 0, none⟩ x).setCell ⟨b, 1, none⟩ y) A l := fun hn => by
  obtain ⟨g, cs, rfl, h1, h2, h3, h4, h5⟩ := h hn
  exact ⟨g, cs, rfl, h1, h2, (h3.other _ _ (by show g ≠ b; omega)).other _ _ (by show g ≠ b; omega), h4, h5⟩
theorem below_set2' {B : Nat} {w w' : World} (h : Below B w w') {b : Nat} (hb : B ≤ b) (x y : Value) : Below B w ((w'.setCell ⟨b, 0, none⟩ x).setCell ⟨b, 1, none⟩ y) :=
  (h.setCell (p := ⟨b, 0, none⟩) hb _).setCell (p := ⟨b, 1, none⟩) hb _
theorem size_set2 (w : World) (b : Nat) (x y : Value) : ((w.setCell ⟨b, 0, none⟩ x).setCell ⟨b, 1, none⟩ y).heap.size = w.heap.size := by simp [World.setCell]
theorem Blk.off2 {w : World} {b g : Nat} {cs : Array Value} {T : TypeId} (h : Blk w b cs T) (hn : b ≠ g) (x y : Value) : Blk ((w.setCell ⟨g, 0, none⟩ x).setCell ⟨g, 1, none⟩ y) b cs T := (h.other _ _ hn).other _ _ hn
/-- what holds at each round's head: the least so far lies in the men at Al, its position in the cell g -/
def LhInv (w wr : World) (side : Int) (A : Option Addr) (c n : Nat) (t : Int) (M : Option Addr) (cm ln g : Nat) (Al : Option Addr) (cl : Nat) (L : List St) : Prop :=
  Blk wr w.heap.size #[.int .i64 side, .slice A n c] 35 ∧ Blk wr (w.heap.size + 1) #[.int .i64 t, .slice M ln cm] 30 ∧ Blk wr (w.heap.size + 2) #[.int .i64 0, .slice none 0 0] 30 ∧
    Blk wr g #[.int .i64 t, .slice Al L.length cl] 30 ∧ w.heap.size + 3 ≤ g ∧ (∃ lo hi, w.heap.size + 3 ≤ lo ∧ hi ≤ wr.heap.size ∧ (g < lo ∨ hi ≤ g) ∧ MenA lo hi wr Al L) ∧ Below w.heap.size w wr

set_option maxHeartbeats 8000000 in
theorem specTurnLeast_any (side : Int) (A : Option Addr) (c : Nat) (ks : List Kd) (t : Int) (M : Option Addr) (cm : Nat) (l : List St) (w : World) (hR : IsKinds w w.heap.size A ks) (hM : IsSteps w w.heap.size M l)
    (hsm : Small ks) (hl : l.length ≤ 1048576) :
    Calls Tryz.prog 19 #[.agg #[.int .i64 side, .slice A ks.length c], .agg #[.int .i64 t, .slice M l.length cm]] w fun e w' => LtPost w w' side ks t l e := by
  go_enter Tryz.func19, Tryz.ntmps19
  go_wp2_with fail
  have hb0 : Below w.heap.size w (((w.alloc (.cells #[.int .i64 side, .slice A ks.length c] 35)).alloc (.cells #[.int .i64 t, .slice M l.length cm] 30)).alloc (.cells #[.int .i64 0, .slice none 0 0] 30)) := (by repeat (first | exact Below.refl _ _ | assumption | (refine Below.alloc ?_ (by first | omega | (simp; done) | (simp; omega)) _) | (refine Below.setCell ?_ (by first | omega | (simp; done) | (simp; omega)) _) | refine Below.drew ?_))
  have p1 := ((Blk.new w #[.int .i64 side, .slice A ks.length c] 35).alloc (.cells #[.int .i64 t, .slice M l.length cm] 30)).alloc (.cells #[.int .i64 0, .slice none 0 0] 30)
  have p2 := (Blk.new (w.alloc (.cells #[.int .i64 side, .slice A ks.length c] 35)) #[.int .i64 t, .slice M l.length cm] 30).alloc (.cells #[.int .i64 0, .slice none 0 0] 30)
  have p3 := Blk.new ((w.alloc (.cells #[.int .i64 side, .slice A ks.length c] 35)).alloc (.cells #[.int .i64 t, .slice M l.length cm] 30)) #[.int .i64 0, .slice none 0 0] 30
  simp only [World.size_alloc] at p2 p3
  have p3 : Blk (((w.alloc (.cells #[.int .i64 side, .slice A ks.length c] 35)).alloc (.cells #[.int .i64 t, .slice M l.length cm] 30)).alloc (.cells #[.int .i64 0, .slice none 0 0] 30)) (w.heap.size + 2) #[.int .i64 0, .slice none 0 0] 30 := p3
  generalize hW0 : ((w.alloc _).alloc _).alloc _ = W0 at *
  clear hW0
  refine (specPosOk_any _ _ _ _ _ _ _ _ _ ((hR.below hb0).more hb0.size) ((hM.below hb0).more hb0.size) hsm hl).mono ?_
  rintro e w2 ⟨rfl, hb2⟩
  have q1 := p1.below hb2 p1.lt
  have q2 := p2.below hb2 p2.lt
  have q3 := p3.below hb2 p3.lt
  have hbe := hb0.trans (hb2.mono hb0.size)
  have z3 := q3.lt
  clear p1 p2 p3 hb0 hb2
  obtain ⟨⟨r0, r1⟩, _⟩ := q1.at2
  obtain ⟨⟨o0, o1⟩, _⟩ := q2.at2
  obtain ⟨⟨u0, u1⟩, ⟨u2, u3⟩⟩ := q3.at2
  cases hp : posB side ks t l
  · have HP := Lib.hid (lt_no hp)
    have hx := (Blk.set2 q3 (.int .i64 0) (.slice none 0 0)).at2
    have hB := below_set2' hbe (b := w.heap.size + 2) (by omega) (.int .i64 0) (.slice none 0 0)
    clear hp
    go_wp2_with fail
    refine bodyPost_ret (v := .agg #[.int .i64 0, .slice none 0 0]) ?_ rfl ⟨none, 0, by rw [HP.out.1, HP.out.2]; rfl, by rw [HP.out.2]; exact MenA.nil _ _ _ _, hB⟩
    obtain ⟨⟨x0, x1⟩, _⟩ := hx
    simp [results, Tryz.results19, go_sem, x0, x1]
  · obtain ⟨hok, hsh, _⟩ := posB_facts hp
    have HP := Lib.hid (lt_yes hp)
    have HSD := Lib.hid (rulesOk_facts hok).1
    have HOK := Lib.hid hok
    have HSH := Lib.hid hsh
    have hpos : 0 < l.length := by
      obtain ⟨kk, hkk, _⟩ := kingAt_some (shapeB_facts hsh).2.2.1
      omega
    have HR := Lib.hid hR
    have HM := Lib.hid hM
    clear hp hok hsh hR hM
    have hz := hbe.size
    go_wp2_with fail
    refine (l6Turn_any side A c ks.length 0 t M cm l ks _ ((HM.out.below hbe).more hz) hpos HSH.out HSD.out (by omega)).mono ?_
    rintro e w3 ⟨A3, c3, rfl, hm3, hb3⟩
    have hbA := below_of w3 (.cells #[.int .i64 t, .slice A3 (tsL side 0 l).length c3] 30)
    have hb4 := hb3.trans (hbA.mono hb3.size)
    have z1 := q1.lt
    have z2 := q2.lt
    have hz3 := hb3.size
    have hI0 : Hid (LhInv w (w3.alloc (.cells #[.int .i64 t, .slice A3 (tsL side 0 l).length c3] 30)) side A c ks.length t M cm l.length w3.heap.size A3 c3 (leastK side ks l (1 - 1))) := Lib.hid
      ⟨q1.below hb4 z1, q2.below hb4 z2, q3.below hb4 z3, Blk.new _ _ _, by omega, ⟨w2.heap.size, w3.heap.size, by omega, hbA.size, .inr (Nat.le_refl _), hm3.below hbA⟩, hbe.trans (hb4.mono hz)⟩
    clear q1 q2 q3 hm3 hb3 hb4 hbA r0 r1 o0 o1 u0 u1 u2 u3 z1 z2 z3
    go_wp2_with fail
    generalize w3.heap.size = g at *
    go_loopw [6] (fun i wr => ∃ (n : Nat) (Al : Option Addr) (cl : Nat), 1 ≤ n ∧ n ≤ 8 ∧ i = .int .i64 n ∧ Hid (LhInv w wr side A c ks.length t M cm l.length g Al cl (leastK side ks l (n - 1)))) (fun i _ => 8 - (intOf i).toNat)
    case atStart => exact ⟨1, A3, c3, by omega, by omega, rfl, hI0⟩
    case round =>
      clear hI0
      obtain ⟨n, Al, cl, hn1, hn8, rfl, hI⟩ := hrel
      obtain ⟨q1, q2, q3, pg, hg, ⟨lo, hi, hlo, hhi, hgo, hma⟩, hbe⟩ := hI.out
      have z1 := q1.lt
      have z2 := q2.lt
      have z3 := q3.lt
      have zg := pg.lt
      have hz := hbe.size
      obtain ⟨⟨r0, r1⟩, _⟩ := q1.at2
      obtain ⟨⟨o0, o1⟩, _⟩ := q2.at2
      by_cases hlt : n < 8
      · have hlt' : (n : Int) < 8 := by omega
        have HST := Lib.hid (leastK_step (side := side) (ks := ks) (l := l) hn1)
        have HLL := Lib.hid (leastK_len side ks l (n - 1))
        have HTL := Lib.hid (tsL_len side (n : Int) l)
        go_wp2_with fail
        refine (l6Turn_any side A c ks.length (n : Int) t M cm l ks _ ((HM.out.below hbe).more hz) hpos HSH.out HSD.out (by omega)).mono ?_
        rintro e w5 ⟨A5, c5, rfl, hm5, hb5⟩
        generalize hL : leastK side ks l (n - 1) = L at *
        generalize hT : tsL side (n : Int) l = T at *
        clear hL hT
        have hbA := below_of w5 (.cells #[.int .i64 t, .slice A5 T.length c5] 30)
        have hb6 := hb5.trans (hbA.mono hb5.size)
        have hz5 := hb5.size
        obtain ⟨⟨s0, s1⟩, _⟩ := (q1.below hb5 z1).at2
        have q1 := q1.below hb6 z1
        have q2 := q2.below hb6 z2
        have q3 := q3.below hb6 z3
        have pg := pg.below hb6 zg
        have pq := Blk.new w5 #[.int .i64 t, .slice A5 T.length c5] 30
        have hma := hma.below (hb6.mono hhi)
        have hmt := hm5.below hbA
        have hbe := hbe.trans (hb6.mono hz)
        have hzA : (w5.alloc (.cells #[.int .i64 t, .slice A5 T.length c5] 30)).heap.size = w5.heap.size + 1 := by simp
        clear hm5 hb5 hb6 hbA r0 r1 o0 o1 hI
        obtain ⟨⟨r0, r1⟩, _⟩ := q1.at2
        go_wp2_with fail
        generalize hW6 : w5.alloc _ = W6 at *
        generalize hq : w5.heap.size = gq at *
        clear hW6 hq s0 s1
        refine (l2Even_any side A c ks (n : Int) _ ((HR.out.below hbe).more hbe.size) HOK.out (by omega)).mono ?_
        rintro e w7 ⟨rfl, hb7⟩
        have zz1 := q1.lt
        have zz2 := q2.lt
        have zz3 := q3.lt
        have zzg := pg.lt
        have zzq := pq.lt
        have q1 := q1.below hb7 zz1
        have q2 := q2.below hb7 zz2
        have q3 := q3.below hb7 zz3
        have pg := pg.below hb7 zzg
        have pq := pq.below hb7 zzq
        have hma := hma.below (hb7.mono (by omega))
        have hmt := hmt.below (hb7.mono (by omega))
        have hbe := hbe.trans (hb7.mono hbe.size)
        have hz7 := hb7.size
        clear r0 r1 hb7
        obtain ⟨⟨a0, a1⟩, ⟨a2, a3⟩⟩ := pg.at2
        obtain ⟨⟨b0, b1⟩, _⟩ := pq.at2
        cases hev : evenB (n : Int) ks
        · have HLE := Lib.hid (show leastK side ks l (n + 1 - 1) = L by rw [HST.out, hev]; rfl)
          have hI2 : Hid (LhInv w w7 side A c ks.length t M cm l.length g Al cl (leastK side ks l (n + 1 - 1))) := Lib.hid (by
            rw [HLE.out]
            exact ⟨q1, q2, q3, pg, hg, ⟨lo, hi, hlo, by omega, hgo, hma⟩, hbe⟩)
          clear hev hma hmt pg pq q1 q2 q3 hbe
          go_wp2_with fail
          go_roundw
          case rel => exact ⟨n + 1, Al, cl, by omega, by omega, by go_num, hI2⟩
          case measure => simp [intOf]; omega
        · have HEV := Lib.hid hev
          clear hev
          go_wp2_with fail
          refine (l6Less_any t t A5 Al c5 cl T L _ (hmt.is.more (by omega)) (hma.is.more (by omega)) (by rw [HTL.out, HLL.out]) (by rw [HTL.out]; exact hl)).mono ?_
          rintro e w8 ⟨rfl, hb8⟩
          have zy1 := q1.lt
          have zy2 := q2.lt
          have zy3 := q3.lt
          have zyg := pg.lt
          have zyq := pq.lt
          have q1 := q1.below hb8 zy1
          have q2 := q2.below hb8 zy2
          have q3 := q3.below hb8 zy3
          have pg := pg.below hb8 zyg
          have pq := pq.below hb8 zyq
          have hma := hma.below (hb8.mono (by omega))
          have hmt := hmt.below (hb8.mono (by omega))
          have hbe := hbe.trans (hb8.mono hbe.size)
          have hz8 := hb8.size
          clear hb8 a0 a1 a2 a3 b0 b1
          obtain ⟨⟨a0, a1⟩, ⟨a2, a3⟩⟩ := pg.at2
          obtain ⟨⟨b0, b1⟩, _⟩ := pq.at2
          cases hlx : lexL T L
          · have HLE := Lib.hid (show leastK side ks l (n + 1 - 1) = L by rw [HST.out, HEV.out, hlx]; rfl)
            have hI2 : Hid (LhInv w w8 side A c ks.length t M cm l.length g Al cl (leastK side ks l (n + 1 - 1))) := Lib.hid (by
              rw [HLE.out]
              exact ⟨q1, q2, q3, pg, hg, ⟨lo, hi, hlo, by omega, hgo, hma⟩, hbe⟩)
            clear hlx hma hmt pg pq q1 q2 q3 hbe
            go_wp2_with fail
            go_roundw
            case rel => exact ⟨n + 1, Al, cl, by omega, by omega, by go_num, hI2⟩
            case measure => simp [intOf]; omega
          · have HLE := Lib.hid (show leastK side ks l (n + 1 - 1) = T by rw [HST.out, HEV.out, hlx]; rfl)
            have hI2 : Hid (LhInv w ((w8.setCell ⟨g, 0, none⟩ (.int .i64 t)).setCell ⟨g, 1, none⟩ (.slice A5 T.length c5)) side A c ks.length t M cm l.length g A5 c5 (leastK side ks l (n + 1 - 1))) := Lib.hid (by
              rw [HLE.out]
              exact ⟨Blk.off2 q1 (by omega) _ _, Blk.off2 q2 (by omega) _ _, Blk.off2 q3 (by omega) _ _, Blk.set2 pg _ _, hg, ⟨_, _, by omega, by rw [size_set2]; omega, .inl (by omega), menA_off2 hmt _ _ (.inl (by omega))⟩, below_set2' hbe (by omega) _ _⟩)
            clear hlx hma hmt pg pq q1 q2 q3 hbe
            go_wp2_with fail
            go_roundw
            case rel => exact ⟨n + 1, A5, c5, by omega, by omega, by go_num, hI2⟩
            case measure => simp [intOf]; omega
      · obtain rfl : n = 8 := by omega
        have HP2 := Lib.hid HP.out.2
        obtain ⟨⟨a0, a1⟩, _⟩ := pg.at2
        obtain ⟨⟨u0, u1⟩, ⟨u2, u3⟩⟩ := q3.at2
        generalize hL : leastK side ks l (8 - 1) = L at *
        have HL : Hid (ltL side ks t l = L) := Lib.hid (by rw [HP.out.2, ← hL])
        have hx := (Blk.set2 q3 (.int .i64 t) (.slice Al L.length cl)).at2
        have hB := below_set2' hbe (b := w.heap.size + 2) (by omega) (.int .i64 t) (.slice Al L.length cl)
        have HMA := Lib.hid ((menA_off2 hma (b := w.heap.size + 2) (.int .i64 t) (.slice Al L.length cl) (.inl (by omega))).more (lo' := w.heap.size) (by omega) (hi' := ((wr.setCell ⟨w.heap.size + 2, 0, none⟩ (.int .i64 t)).setCell ⟨w.heap.size + 2, 1, none⟩ (.slice Al L.length cl)).heap.size) (by rw [size_set2]; exact hhi))
        clear hma hL hI
        go_wp2_with fail
        refine bodyPost_ret (v := .agg #[.int .i64 t, .slice Al L.length cl]) ?_ rfl ⟨Al, cl, by rw [HP.out.1, HL.out], by rw [HL.out]; exact HMA.out, hB⟩
        obtain ⟨⟨x0, x1⟩, _⟩ := hx
        simp [results, Tryz.results19, go_sem, x0, x1]
end Go.Proofs.YtmfcgikfgikbfaaGreat.Ko

namespace Go.Proofs.YtmfcgikfgikbfaaGreat.Ko
open Go.ChangeShapes Go.WideShapes Go.ChangeAt Go.RowKit Base Sq
set_option linter.unusedVariables false
set_option maxRecDepth 20000
attribute [local irreducible] wpQuiet

theorem rulesEven_at {side : Int} {ks : List Kd} (h : rulesOk side ks = true) {n : Nat} (hn : n < 8) : rulesEven side ks (n : Int) = evenB (n : Int) ks := by
  unfold rulesEven
  rw [h, show inB (n : Int) 0 7 = true from by unfold inB; simp; omega]; rfl
/-- the least so far -/
def LjLst (w wr : World) (side : Int) (ks : List Kd) (l : List St) (n : Nat) (x : Value) : Prop :=
  (n = 0 ∧ x = .slice none 0 0) ∨ (0 < n ∧ ∃ b cl lo hi, x = .slice (some ⟨b, 0, none⟩) (leastK side ks l (n - 1)).length cl ∧ w.heap.size + 3 ≤ lo ∧ hi ≤ wr.heap.size ∧ MenA lo hi wr (some ⟨b, 0, none⟩) (leastK side ks l (n - 1)))
theorem LjLst.below {w wr w' : World} {side : Int} {ks : List Kd} {l : List St} {n : Nat} {x : Value} (h : LjLst w wr side ks l n x) (hb : Below wr.heap.size wr w') : LjLst w w' side ks l n x := by
  rcases h with h | ⟨h0, b, cl, lo, hi, hx, h1, h2, h3⟩
  · exact .inl h
  · exact .inr ⟨h0, b, cl, lo, hi, hx, h1, Nat.le_trans h2 hb.size, h3.below (hb.mono h2)⟩
/-- what holds at each round's head -/
def LjInv (w wr : World) (side : Int) (A : Option Addr) (c n : Nat) (t : Int) (M : Option Addr) (cm ln bs : Nat) : Prop :=
  Blk wr w.heap.size #[.int .i64 side, .slice A n c] 35 ∧ Blk wr (w.heap.size + 1) #[.int .i64 t, .slice M ln cm] 30 ∧ Blk wr (w.heap.size + 2) #[.int .i64 0, .slice none 0 0] 30 ∧
    Blk wr bs #[.int .i64 side] 3 ∧ (∀ i : Nat, i < 8 → Blk wr (bs + 3 + i) #[.int .i64 (i : Int)] 3) ∧ Below w.heap.size w wr
theorem LjInv.below {w wr w' : World} {side : Int} {A : Option Addr} {c n : Nat} {t : Int} {M : Option Addr} {cm ln bs : Nat} (h : LjInv w wr side A c n t M cm ln bs) (hb : Below wr.heap.size wr w') : LjInv w w' side A c n t M cm ln bs := by
  obtain ⟨h1, h2, h3, h4, h5, h6⟩ := h
  exact ⟨h1.below hb h1.lt, h2.below hb h2.lt, h3.below hb h3.lt, h4.below hb h4.lt, fun i hi => (h5 i hi).below hb (h5 i hi).lt, h6.trans (hb.mono h6.size)⟩
theorem menA_some {lo hi : Nat} {w : World} {A : Option Addr} {l : List St} (h : MenA lo hi w A l) (hp : 0 < l.length) : ∃ b, A = some ⟨b, 0, none⟩ := by
  obtain ⟨b, cs, rfl, _⟩ := h hp
  exact ⟨b, rfl⟩

set_option maxHeartbeats 8000000 in
theorem turnLeast_any (side : Int) (A : Option Addr) (c : Nat) (ks : List Kd) (t : Int) (M : Option Addr) (cm : Nat) (l : List St) (w : World) (hR : IsKinds w w.heap.size A ks) (hM : IsSteps w w.heap.size M l)
    (hsm : Small ks) (hl : l.length ≤ 1048576) :
    Calls Tryz.prog 21 #[.agg #[.int .i64 side, .slice A ks.length c], .agg #[.int .i64 t, .slice M l.length cm]] w fun e w' => LtPost w w' side ks t l e := by
  have heq := fun (w : World) (a : Option Addr) (n c n' c' : Nat) => Lib.run_eql_slice_nil (P := Tryz.prog) w 28 84 a n c n' c' Tryz.underlying28
  go_enter Tryz.func21, Tryz.ntmps21
  go_wp2_with fail
  have hb0 : Below w.heap.size w (((w.alloc (.cells #[.int .i64 side, .slice A ks.length c] 35)).alloc (.cells #[.int .i64 t, .slice M l.length cm] 30)).alloc (.cells #[.int .i64 0, .slice none 0 0] 30)) := (by repeat (first | exact Below.refl _ _ | assumption | (refine Below.alloc ?_ (by first | omega | (simp; done) | (simp; omega)) _) | (refine Below.setCell ?_ (by first | omega | (simp; done) | (simp; omega)) _) | refine Below.drew ?_))
  have p1 := ((Blk.new w #[.int .i64 side, .slice A ks.length c] 35).alloc (.cells #[.int .i64 t, .slice M l.length cm] 30)).alloc (.cells #[.int .i64 0, .slice none 0 0] 30)
  have p2 := (Blk.new (w.alloc (.cells #[.int .i64 side, .slice A ks.length c] 35)) #[.int .i64 t, .slice M l.length cm] 30).alloc (.cells #[.int .i64 0, .slice none 0 0] 30)
  have p3 := Blk.new ((w.alloc (.cells #[.int .i64 side, .slice A ks.length c] 35)).alloc (.cells #[.int .i64 t, .slice M l.length cm] 30)) #[.int .i64 0, .slice none 0 0] 30
  simp only [World.size_alloc] at p2 p3
  have p3 : Blk (((w.alloc (.cells #[.int .i64 side, .slice A ks.length c] 35)).alloc (.cells #[.int .i64 t, .slice M l.length cm] 30)).alloc (.cells #[.int .i64 0, .slice none 0 0] 30)) (w.heap.size + 2) #[.int .i64 0, .slice none 0 0] 30 := p3
  generalize hW0 : ((w.alloc _).alloc _).alloc _ = W0 at *
  clear hW0
  refine (posOk_any _ _ _ _ _ _ _ _ _ ((hR.below hb0).more hb0.size) ((hM.below hb0).more hb0.size) hsm hl).mono ?_
  rintro e w2 ⟨rfl, hb2⟩
  have q1 := p1.below hb2 p1.lt
  have q2 := p2.below hb2 p2.lt
  have q3 := p3.below hb2 p3.lt
  have hbe := hb0.trans (hb2.mono hb0.size)
  have z1 := q1.lt
  have z2 := q2.lt
  have z3 := q3.lt
  clear p1 p2 p3 hb0 hb2
  obtain ⟨⟨r0, r1⟩, _⟩ := q1.at2
  obtain ⟨⟨o0, o1⟩, _⟩ := q2.at2
  obtain ⟨⟨u0, u1⟩, ⟨u2, u3⟩⟩ := q3.at2
  cases hp : posB side ks t l
  · have HP := Lib.hid (lt_no hp)
    have hx := (Blk.set2 q3 (.int .i64 0) (.slice none 0 0)).at2
    have hB := below_set2' hbe (b := w.heap.size + 2) (by omega) (.int .i64 0) (.slice none 0 0)
    clear hp
    go_wp2_with fail
    refine bodyPost_ret (v := .agg #[.int .i64 0, .slice none 0 0]) ?_ rfl ⟨none, 0, by rw [HP.out.1, HP.out.2]; rfl, by rw [HP.out.2]; exact MenA.nil _ _ _ _, hB⟩
    obtain ⟨⟨x0, x1⟩, _⟩ := hx
    simp [results, Tryz.results21, go_sem, x0, x1]
  · obtain ⟨hok, hsh, _⟩ := posB_facts hp
    have HP := Lib.hid (lt_yes hp)
    have HSD := Lib.hid (rulesOk_facts hok).1
    have HOK := Lib.hid hok
    have HSH := Lib.hid hsh
    have hpos : 0 < l.length := by
      obtain ⟨kk, hkk, _⟩ := kingAt_some (shapeB_facts hsh).2.2.1
      omega
    have HR := Lib.hid hR
    have HM := Lib.hid hM
    have HSM := Lib.hid hsm
    clear hp hok hsh hR hM hsm
    have hz := hbe.size
    go_wp2_with fail
    refine (turnsOf_any _ _).mono ?_
    rintro e w3 ⟨rfl, hsd, hkd, hb3⟩
    have hI0 : Hid (LjInv w w3 side A c ks.length t M cm l.length w2.heap.size) := Lib.hid ⟨q1.below hb3 z1, q2.below hb3 z2, q3.below hb3 z3, hsd, hkd, hbe.trans (hb3.mono hz)⟩
    clear q1 q2 q3 hsd hkd hb3 r0 r1 o0 o1 u0 u1 u2 u3 z1 z2 z3 hbe
    generalize w2.heap.size = bs at *
    go_wp2_with fail
    go_loopw [5, 17] (fun x i wr => ∃ n : Nat, n ≤ 8 ∧ i = .int .i64 n ∧ Hid (LjInv w wr side A c ks.length t M cm l.length bs) ∧ Hid (LjLst w wr side ks l n x)) (fun _ i _ => 8 - (intOf i).toNat)
    case atStart => exact ⟨0, by omega, rfl, hI0, Lib.hid (.inl ⟨rfl, rfl⟩)⟩
    case round =>
      clear hI0
      obtain ⟨n, hn8, rfl, hI, hL⟩ := hrel
      obtain ⟨q1, q2, q3, qs, qk, hbe⟩ := hI.out
      have hz := hbe.size
      obtain ⟨⟨r0, r1⟩, _⟩ := q1.at2
      obtain ⟨⟨o0, o1⟩, _⟩ := q2.at2
      by_cases hlt : n < 8
      · have hlt' : (n : Int) < 8 := by omega
        have hidx := fun bs b0 W => idx_any bs b0 n W hlt
        have HRE := Lib.hid (rulesEven_at HOK.out hlt)
        clear qk qs
        go_wp2_with fail
        refine (rulesEven_any _ _ _ _ _ _ ((HR.out.below hbe).more hz) HSM.out).mono ?_
        rw [HRE.out]
        rintro e w4 ⟨rfl, hb4⟩
        have hI4 := Lib.hid (hI.out.below hb4)
        have hL4 := Lib.hid (hL.out.below hb4)
        clear hI hL q1 q2 q3 hbe hz r0 r1 o0 o1 hb4
        obtain ⟨q1, q2, q3, qs, qk, hbe⟩ := hI4.out
        have hz := hbe.size
        have hqk := qk n hlt
        have hz9 : w.heap.size + 3 ≤ w4.heap.size := by have := q3.lt; omega
        clear qk
        obtain ⟨⟨o0, o1⟩, _⟩ := q2.at2
        cases hev : evenB (n : Int) ks
        · have hn0 : n ≠ 0 := fun h => by
            subst h
            have := even_zero ks
            rw [show ((0 : Nat) : Int) = 0 from rfl, this] at hev
            cases hev
          have HLE := Lib.hid (show leastK side ks l (n + 1 - 1) = leastK side ks l (n - 1) by rw [leastK_step (by omega), hev]; rfl)
          obtain ⟨b, cl, lo, hi, rfl, h1, h2, h3⟩ : ∃ b cl lo hi, _ = Value.slice (some ⟨b, 0, none⟩) (leastK side ks l (n - 1)).length cl ∧ w.heap.size + 3 ≤ lo ∧ hi ≤ w4.heap.size ∧ MenA lo hi w4 (some ⟨b, 0, none⟩) (leastK side ks l (n - 1)) := by
            rcases hL4.out with ⟨h, _⟩ | ⟨_, h⟩
            · exact absurd h hn0
            · exact h
          have HL5 : Hid (LjLst w w4 side ks l (n + 1) (.slice (some ⟨b, 0, none⟩) (leastK side ks l (n - 1)).length cl)) := Lib.hid (.inr ⟨by omega, b, cl, lo, hi, by rw [HLE.out], h1, h2, by rw [HLE.out]; exact h3⟩)
          clear hev h3 q1 q2 q3 qs hqk hbe
          go_wp2_with fail
          go_roundw
          case rel => exact ⟨n + 1, by omega, by go_num, hI4, HL5⟩
          case measure => simp [intOf]; omega
        · have HEV := Lib.hid hev
          clear hev
          go_wp2_with fail
          refine (turnMen_any M cm l side (n : Int) t ks bs (bs + 3 + n) _ ((HM.out.below hbe).more hz) hpos HSH.out HSD.out (by omega) qs hqk).mono ?_
          rintro e w5 ⟨A5, c5, rfl, hm5, hb5⟩
          obtain ⟨b5, rfl⟩ := menA_some hm5 (by rw [tsL_len]; exact hpos)
          have hI5 := Lib.hid (hI4.out.below hb5)
          have hL5 := Lib.hid (hL4.out.below hb5)
          have hz5 := hb5.size
          clear hI4 hL4 q1 q2 q3 qs hqk o0 o1 hb5
          rcases hL5.out with ⟨hn0, rfl⟩ | ⟨hn1, b, cl, lo, hi, rfl, h1, h2, h3⟩
          · have HLE := Lib.hid (show leastK side ks l (n + 1 - 1) = tsL side (n : Int) l by subst hn0; rfl)
            have HL6 : Hid (LjLst w w5 side ks l (n + 1) (.slice (some ⟨b5, 0, none⟩) (tsL side (n : Int) l).length c5)) := Lib.hid (.inr ⟨by omega, b5, c5, w4.heap.size, w5.heap.size, by rw [HLE.out], hz9, Nat.le_refl _, by rw [HLE.out]; exact hm5⟩)
            clear hm5 hn0
            go_wp2_with fail
            go_roundw
            case rel => exact ⟨n + 1, by omega, by go_num, hI5, HL6⟩
            case measure => simp [intOf]; omega
          · have HST := Lib.hid (leastK_step (side := side) (ks := ks) (l := l) (n := n) hn1)
            have HLL := Lib.hid (leastK_len side ks l (n - 1))
            have HTL := Lib.hid (tsL_len side (n : Int) l)
            generalize hLx : leastK side ks l (n - 1) = L at *
            generalize hTx : tsL side (n : Int) l = T at *
            have HLX := Lib.hid hLx
            clear hLx hTx hbe hL5
            have HH3 := Lib.hid h3
            have HM5 := Lib.hid hm5
            clear h3 hm5
            go_wp2_with fail
            refine (compareFunc_any (some ⟨b5, 0, none⟩) (some ⟨b, 0, none⟩) c5 cl T L _ HM5.out.is (HH3.out.is.more h2) (by rw [HTL.out, HLL.out]) (by rw [HTL.out]; exact hl)).mono ?_
            rintro e w6 ⟨rfl, hb6⟩
            have hI6 := Lib.hid (hI5.out.below hb6)
            have HCL := Lib.hid (ordL_lex (l := T) (l' := L) (by rw [HTL.out, HLL.out]))
            have hz6 := hb6.size
            have HT6 := Lib.hid (HM5.out.below hb6)
            have HL6 := Lib.hid (HH3.out.below (hb6.mono h2))
            clear hI5 hb6 HM5 HH3
            generalize hv : ordL T L = v at *
            clear hv
            cases hlx : lexL T L
            · have hd : decide (v < 0) = false := by rw [HCL.out, hlx]
              have HLE := Lib.hid (show leastK side ks l (n + 1 - 1) = L by rw [HST.out, HEV.out, hlx]; rfl)
              have HL7 : Hid (LjLst w w6 side ks l (n + 1) (.slice (some ⟨b, 0, none⟩) L.length cl)) := Lib.hid (.inr ⟨by omega, b, cl, lo, hi, by rw [HLE.out], h1, by omega, by rw [HLE.out]; exact HL6.out⟩)
              clear hlx HCL
              go_wp2_with fail
              go_roundw
              case rel => exact ⟨n + 1, by omega, by go_num, hI6, HL7⟩
              case measure => simp [intOf]; omega
            · have hd : decide (v < 0) = true := by rw [HCL.out, hlx]
              have HLE := Lib.hid (show leastK side ks l (n + 1 - 1) = T by rw [HST.out, HEV.out, hlx]; rfl)
              have HL7 : Hid (LjLst w w6 side ks l (n + 1) (.slice (some ⟨b5, 0, none⟩) T.length c5)) := Lib.hid (.inr ⟨by omega, b5, c5, w4.heap.size, w5.heap.size, by rw [HLE.out], hz9, by omega, by rw [HLE.out]; exact HT6.out⟩)
              clear hlx HCL
              go_wp2_with fail
              go_roundw
              case rel => exact ⟨n + 1, by omega, by go_num, hI6, HL7⟩
              case measure => simp [intOf]; omega
      · obtain rfl : n = 8 := by omega
        obtain ⟨b, cl, lo, hi, rfl, h1, h2, h3⟩ : ∃ b cl lo hi, _ = Value.slice (some ⟨b, 0, none⟩) (leastK side ks l (8 - 1)).length cl ∧ w.heap.size + 3 ≤ lo ∧ hi ≤ wr.heap.size ∧ MenA lo hi wr (some ⟨b, 0, none⟩) (leastK side ks l (8 - 1)) := by
          rcases hL.out with ⟨h, _⟩ | ⟨_, h⟩
          · omega
          · exact h
        obtain ⟨⟨u0, u1⟩, ⟨u2, u3⟩⟩ := q3.at2
        generalize hLx : leastK side ks l (8 - 1) = L at *
        have HL : Hid (ltL side ks t l = L) := Lib.hid (by rw [HP.out.2, ← hLx])
        have hx := (Blk.set2 q3 (.int .i64 t) (.slice (some ⟨b, 0, none⟩) L.length cl)).at2
        have hB := below_set2' hbe (b := w.heap.size + 2) (by omega) (.int .i64 t) (.slice (some ⟨b, 0, none⟩) L.length cl)
        have HMA := Lib.hid ((menA_off2 h3 (b := w.heap.size + 2) (.int .i64 t) (.slice (some ⟨b, 0, none⟩) L.length cl) (.inl (by omega))).more (lo' := w.heap.size) (by omega) (hi' := ((wr.setCell ⟨w.heap.size + 2, 0, none⟩ (.int .i64 t)).setCell ⟨w.heap.size + 2, 1, none⟩ (.slice (some ⟨b, 0, none⟩) L.length cl)).heap.size) (by rw [size_set2]; exact h2))
        clear h3 hLx hI hL
        go_wp2_with fail
        refine bodyPost_ret (v := .agg #[.int .i64 t, .slice (some ⟨b, 0, none⟩) L.length cl]) ?_ rfl ⟨some ⟨b, 0, none⟩, cl, by rw [HP.out.1, HL.out], by rw [HL.out]; exact HMA.out, hB⟩
        obtain ⟨⟨x0, x1⟩, _⟩ := hx
        simp [results, Tryz.results21, go_sem, x0, x1]
end Go.Proofs.YtmfcgikfgikbfaaGreat.Ko

namespace Go.Proofs.YtmfcgikfgikbfaaGreat.Laws
open Go.ChangeShapes Go.WideShapes Go.ChangeAt Go.RowKit Base Sq Ko Opn
set_option linter.unusedVariables false
set_option maxRecDepth 20000

theorem _root_.Go.Proofs.YtmfcgikfgikbfaaGreat.Ko.MenA.other {lo hi : Nat} {w : World} {A : Option Addr} {l : List St} (h : MenA lo hi w A l) (a : Addr) (u : Value) (ha : a.block < lo) : MenA lo hi (w.setCell a u) A l := fun hn => by
  obtain ⟨b, cs, rfl, h1, h2, h3, h4, h5⟩ := h hn
  exact ⟨b, cs, rfl, h1, h2, h3.other a u (by omega), h4, h5⟩

set_option maxHeartbeats 16000000 in
theorem fnExactTurnLeast_walk {H : Type} {enc : TypeId × Value → H} {d d' : DataW H} {p p' : List MemPlace} {b0 : Nat} (w : World) (v : Value) (hv : Value.okWide Tryz.prog w .any b0 24 v) (h : DataW.Trod enc Tryz.prog w 0 (fun _ => true) true 24 v d p)
    (v' : Value) (hv' : Value.okWide Tryz.prog w .any b0 48 v') (h' : DataW.Trod enc Tryz.prog w 0 (fun _ => true) true 48 v' d' p') :
    Calls Tryz.prog 4 #[v, v'] w fun e w' => e = .returned (.bool true) ∧ Below w.heap.size w w' := by
  obtain ⟨side, A, c, ks, rfl, hl, hs⟩ := open_rules hv h
  obtain ⟨t, M, cm, l, rfl, hl', _, hm⟩ := open_pos hv' h'
  clear hv h hv' h'
  unfold maxLen at hl'
  go_enter Tryz.func4, Tryz.ntmps4
  go_wp2_with fail
  have hw0 : Below w.heap.size w ((w.alloc (.cells #[.int .i64 side, .slice A ks.length c] 24)).alloc (.cells #[.int .i64 t, .slice M l.length cm] 48)) := (by repeat (first | exact Below.refl _ _ | assumption | (refine Below.alloc ?_ (by first | omega | (simp; done) | (simp; omega)) _) | (refine Below.setCell ?_ (by first | omega | (simp; done) | (simp; omega)) _) | refine Below.drew ?_))
  have pR0 := (Blk.new w #[.int .i64 side, .slice A ks.length c] 24).alloc (.cells #[.int .i64 t, .slice M l.length cm] 48)
  have pP0 := Blk.new (w.alloc (.cells #[.int .i64 side, .slice A ks.length c] 24)) #[.int .i64 t, .slice M l.length cm] 48
  simp only [World.size_alloc] at pP0
  generalize hW0 : (w.alloc _).alloc _ = W0 at *
  clear hW0
  refine (szRules_any _ _ _ _ _ _ ((hs.below hw0).more hw0.size) hl (by omega) (by omega)).mono ?_
  rintro e w1 ⟨v, rfl, hv1, hor, hb1⟩
  have pR1 := pR0.below hb1 pR0.lt
  have pP1 := pP0.below hb1 pP0.lt
  have hw1 := hw0.trans (hb1.mono hw0.size)
  clear hb1 hl pR0 pP0 hw0
  rcases hor with rfl | ⟨hv0, hsm⟩
  · go_wp2_with fail
    go_ret
    exact ⟨rfl, hw1⟩
  have HSM := Lib.hid hsm
  clear hsm
  obtain ⟨⟨a0, a1⟩, _⟩ := pR1.at2
  obtain ⟨⟨b0, b1⟩, _⟩ := pP1.at2
  by_cases hbig : v - (l.length : Int) < 0
  · have HN := Lib.hid hbig
    clear hbig
    go_wp2_with fail
    refine (szPos_any _ _ _ _ _ _ (by omega) hv0 (by omega)).mono ?_
    rw [if_pos (by have := HN.out; omega)]
    rintro e w2 ⟨rfl, hb2⟩
    go_wp2_with fail
    go_ret
    exact ⟨rfl, hw1.trans (hb2.mono hw1.size)⟩
  have hl2 : l.length ≤ 1048576 := by omega
  have HN := Lib.hid hbig
  clear hbig
  go_wp2_with fail
  refine (szPos_any _ _ _ _ _ _ (by omega) hv0 (by omega)).mono ?_
  rw [if_neg (by have := HN.out; omega)]
  rintro e w2 ⟨rfl, hb2⟩
  have hnn : 0 ≤ v - (l.length : Int) := by have := HN.out; omega
  have pR := pR1.below hb2 pR1.lt
  have pP := pP1.below hb2 pP1.lt
  have hW := hw1.trans (hb2.mono hw1.size)
  have hs2 := (hs.below hW).more hW.size
  have hm2 := (hm.below hW).more hW.size
  have HSS := Lib.hid hs
  have HMM := Lib.hid hm
  clear hb2 pR1 pP1 hw1 a0 a1 b0 b1 hs hm
  obtain ⟨⟨a0, a1⟩, _⟩ := pR.at2
  obtain ⟨⟨b0, b1⟩, _⟩ := pP.at2
  go_wp2_with fail
  have hlow0 := pP.lt
  go_cut [6] from 24 (fun s6 wx => ∃ (bw : Nat) (Aw : Option Addr) (cw : Nat), s6 = .pointer (some ⟨bw, 0, none⟩) ∧ w2.heap.size ≤ bw ∧ Blk wx bw #[.int .i64 (ltT side ks t l), .slice Aw (ltL side ks t l).length cw] 30 ∧ MenA w2.heap.size wx.heap.size wx Aw (ltL side ks t l) ∧ Below w2.heap.size w2 wx)
  case first =>
    have HS : Hid (∀ w', Below w2.heap.size w2 w' → (w'.cell? ⟨w.heap.size, 0, none⟩ = some (.int .i64 side) ∧ w'.cell? ⟨w.heap.size, 1, none⟩ = some (.slice A ks.length c) ∧ w'.cell? ⟨w.heap.size + 1, 0, none⟩ = some (.int .i64 t) ∧ w'.cell? ⟨w.heap.size + 1, 1, none⟩ = some (.slice M l.length cm))) := Lib.hid (fun w' hb => by
      obtain ⟨⟨a0, a1⟩, _⟩ := (pR.below hb pR.lt).at2
      obtain ⟨⟨b0, b1⟩, _⟩ := (pP.below hb pP.lt).at2
      exact ⟨a0, a1, b0, b1⟩)
    have hw : Below w2.heap.size w2 w2.drew := (Below.refl _ _).drew
    go_region_held3 (fun w' => w'.cell? ⟨w.heap.size, 0, none⟩ = some (.int .i64 side) ∧ w'.cell? ⟨w.heap.size, 1, none⟩ = some (.slice A ks.length c) ∧ w'.cell? ⟨w.heap.size + 1, 0, none⟩ = some (.int .i64 t) ∧ w'.cell? ⟨w.heap.size + 1, 1, none⟩ = some (.slice M l.length cm))
      (exact HS.out _ (by first | exact hw | exact hw.alloc (by first | omega | (simp; done) | (have := hw.size; simp; omega)) _ | exact (hw.setCell (by first | omega | (simp; done) | (simp; omega)) _).setCell (by first | omega | (simp; done) | (simp; omega)) _))
      (first
        | (go_at_call 8; refine (toRules_any _ _ _ _ _ ((hs2.below (by first | exact hw | exact hw.alloc (by first | omega | (simp; done) | (have := hw.size; simp; omega)) _)).more (by first | exact hw.size | (have := hw.size; simp; done) | (have := hw.size; simp; omega))) HSM.out).mono ?_; rintro e wa ⟨ga, ca, rfl, hna, hba⟩; have hw : Below w2.heap.size w2 wa := Below.trans (by first | exact hw | exact hw.alloc (by first | omega | (simp; done) | (have := hw.size; simp; omega)) _) (hba.mono (by first | exact hw.size | (have := hw.size; simp; done) | (have := hw.size; simp; omega))); have hws := hw.size; (first | (have hx := hx.below hba hx.lt; have hxl := hx.lt) | (have hx : Blk wa w2.heap.size #[.int .i64 0, .slice none 0 0] 30 := (Blk.new w2.drew _ _).below hba (by simp); have hxl := hx.lt) | (have hx : Blk wa _ #[.int .i64 0, .slice none 0 0] 30 := (Blk.new _ _ _).below hba (by simp); have hxl := hx.lt) | skip); try (have hnb : NewMen _ wa _ _ := hnb.below (by first | exact hba | exact (below_of _ _).trans (hba.mono (by simp)))))
        | (go_at_call 20; refine (toPos_any _ _ _ _ _ ((hm2.below (by first | exact hw | exact hw.alloc (by first | omega | (simp; done) | (have := hw.size; simp; omega)) _)).more (by first | exact hw.size | (have := hw.size; simp; done) | (have := hw.size; simp; omega))) hl2).mono ?_; rintro e wb ⟨gb, cb, rfl, hnb, hbb⟩; have hw : Below w2.heap.size w2 wb := Below.trans (by first | exact hw | exact hw.alloc (by first | omega | (simp; done) | (have := hw.size; simp; omega)) _) (hbb.mono (by first | exact hw.size | (have := hw.size; simp; done) | (have := hw.size; simp; omega))); have hws := hw.size; (first | (have hx := hx.below hbb hx.lt; have hxl := hx.lt) | (have hx : Blk wb w2.heap.size #[.int .i64 0, .slice none 0 0] 30 := (Blk.new w2.drew _ _).below hbb (by simp); have hxl := hx.lt) | (have hx : Blk wb _ #[.int .i64 0, .slice none 0 0] 30 := (Blk.new _ _ _).below hbb (by simp); have hxl := hx.lt) | skip); try (have hna : NewKinds _ wb _ _ := hna.below (by first | exact hbb | exact (below_of _ _).trans (hbb.mono (by simp)))))
        | (go_at_call 19; refine (specTurnLeast_any _ _ _ _ _ _ _ _ _ (by first | exact hna.is | exact (hna.below (below_of _ _)).is) (by first | exact hnb.is | exact (hnb.below (below_of _ _)).is) HSM.out hl2).mono ?_; rintro e wg ⟨Aw, cw, rfl, hIw, hbg⟩; have hw : Below w2.heap.size w2 wg := Below.trans (by first | exact hw | exact hw.alloc (by first | omega | (simp; done) | (have := hw.size; simp; omega)) _) (hbg.mono (by first | exact hw.size | (have := hw.size; simp; done) | (have := hw.size; simp; omega))); have hws := hw.size; (first | (have hx := hx.below hbg hx.lt; have hxl := hx.lt) | (have hx : Blk wg w2.heap.size #[.int .i64 0, .slice none 0 0] 30 := (Blk.new w2.drew _ _).below hbg (by simp); have hxl := hx.lt) | (have hx : Blk wg _ #[.int .i64 0, .slice none 0 0] 30 := (Blk.new _ _ _).below hbg (by simp); have hxl := hx.lt) | skip); try (obtain ⟨⟨hx0, hx1⟩, ⟨hx2, hx3⟩⟩ := hx.at2)))
    all_goals
      have hws2 : w2.heap.size ≤ wg.heap.size := hw.size
      go_wp2_with fail
      go_meet
      first
        | exact ⟨_, _, _, rfl, hws2, Blk.new wg _ _, (hIw.below (below_of wg _)).more (by first | omega | (simp; omega)) (by simp), hw.alloc hws2 _⟩
        | exact ⟨_, _, _, rfl, by first | exact Nat.le_refl _ | omega, hx.set2 _ _, ((hIw.other ⟨_, 0, none⟩ _ (by (try dsimp only); first | omega | (simp; done) | (simp; omega))).other ⟨_, 1, none⟩ _ (by (try dsimp only); first | omega | (simp; done) | (simp; omega))).more (by first | omega | (simp; done) | (simp; omega)) (by simp), (hw.setCell (by (try dsimp only); first | exact Nat.le_refl _ | omega) _).setCell (by (try dsimp only); first | exact Nat.le_refl _ | omega) _⟩
  obtain ⟨bw, Aw, cw, rfl, hbw, pw0, iw0, hb0⟩ := hcut
  have lw0 := pw0.lt
  have hlenL : (ltL side ks t l).length ≤ 1048576 := Nat.le_trans (ltL_len side ks t l) hl2
  have pR1 := pR.below hb0 pR.lt
  have pP1 := pP.below hb0 pP.lt
  have hW1 := hW.trans (hb0.mono hW.size)
  have hz0 := hW.size
  have hz1 := hb0.size
  clear hb0 pR pP hW hs2 hm2 a0 a1 b0 b1
  have pW1 := pw0
  have Iw1 := iw0
  clear pw0 iw0
  obtain ⟨⟨a0, a1⟩, _⟩ := pR1.at2
  obtain ⟨⟨b0, b1⟩, _⟩ := pP1.at2
  go_wp2_with fail
  refine (toRules_any _ _ _ _ _ ((HSS.out.below hW1).more hW1.size) HSM.out).mono ?_
  rintro e w4 ⟨g4, c4, rfl, hn4, hb4⟩
  have KS4 := hn4.shape
  have hX := Blk.new w4 #[.int .i64 side, .slice (some ⟨g4, 0, none⟩) ks.length c4] 35
  have hA := below_of w4 (.cells #[.int .i64 side, .slice (some ⟨g4, 0, none⟩) ks.length c4] 35)
  have h45 := hb4.trans (hA.mono hb4.size)
  have hn5 := hn4.below hA
  have KS5 := KS4.below hA
  have hz4 := hb4.size
  have hz45 := hA.size
  clear a0 a1 b0 b1
  have pR2 := pR1.below h45 pR1.lt
  have pP2 := pP1.below h45 pP1.lt
  have hW2 := hW1.trans (h45.mono hW1.size)
  have pW2 := pW1.below h45 pW1.lt
  have Iw2 := Iw1.below (h45.mono (by omega))
  have hz2 := h45.size
  clear h45 pR1 pP1 hW1 pW1 Iw1
  have pX2 := hX
  have hk2 := hn5
  have KS2 := KS5
  clear hX hn5 KS5 KS4
  have hs45 : (w4.alloc (.cells #[.int .i64 side, .slice (some ⟨g4, 0, none⟩) ks.length c4] 35)).heap.size = w4.heap.size + 1 := by simp
  obtain ⟨⟨b0, b1⟩, _⟩ := pP2.at2
  go_wp2_with fail
  generalize hZ5 : w4.alloc _ = W5 at *
  generalize hz5 : w4.heap.size = x0 at *
  clear hZ5 hz5 hb4 hn4 hA b0 b1
  refine (toPos_any _ _ _ _ _ ((HMM.out.below hW2).more hW2.size) hl2).mono ?_
  rintro e w6 ⟨g6, c6, rfl, hn6, hb6⟩
  have MB6 := hn6.big
  have ml6 := hn6.lt
  have ml5 : W5.heap.size ≤ g6 := by obtain ⟨_, hh, _⟩ := hn6; exact hh
  have hY := Blk.new w6 #[.int .i64 t, .slice (some ⟨g6, 0, none⟩) l.length c6] 30
  have hB := below_of w6 (.cells #[.int .i64 t, .slice (some ⟨g6, 0, none⟩) l.length c6] 30)
  have hn7 := hn6.below hB
  have MB7 := MB6.below hB MB6.lt
  have h67 := hb6.trans (hB.mono hb6.size)
  have hz6 := hb6.size
  have hs67 : (w6.alloc (.cells #[.int .i64 t, .slice (some ⟨g6, 0, none⟩) l.length c6] 30)).heap.size = w6.heap.size + 1 := by simp
  have lX := (pX2.below hb6 pX2.lt).lt
  obtain ⟨⟨xx0, xx1⟩, _⟩ := (pX2.below hb6 pX2.lt).at2
  have pR3 := pR2.below h67 pR2.lt
  have pP3 := pP2.below h67 pP2.lt
  have hW3 := hW2.trans (h67.mono hW2.size)
  have pW3 := pW2.below h67 pW2.lt
  have Iw3 := Iw2.below (h67.mono (by omega))
  have pX3 := pX2.below h67 pX2.lt
  have hk3 := hk2.below h67
  have KS3 := KS2.below (h67.mono (by omega))
  have hz3 := h67.size
  clear h67 pR2 pP2 hW2 pW2 Iw2 pX2 hk2 KS2
  have pY3 := hY
  have hnx3 := hn7
  have MB3 := MB7
  clear hY MB6
  obtain ⟨⟨xc0, xc1⟩, _⟩ := pX3.at2
  obtain ⟨⟨yc0, yc1⟩, _⟩ := pY3.at2
  go_wp2_with fail
  generalize hZ7 : w6.alloc _ = W7 at *
  generalize hz7 : w6.heap.size = x1 at *
  clear hZ7 hz7 hb6 hn6 hB hn7 xx0 xx1
  refine (turnLeast_any _ _ _ _ _ _ _ _ _ hk3.is hnx3.is HSM.out hl2).mono ?_
  rintro e w8 ⟨Ag, cg, rfl, hOg, hb8⟩
  have hG := Blk.new w8 #[.int .i64 (ltT side ks t l), .slice Ag (ltL side ks t l).length cg] 30
  have hC := below_of w8 (.cells #[.int .i64 (ltT side ks t l), .slice Ag (ltL side ks t l).length cg] 30)
  have h89 := hb8.trans (hC.mono hb8.size)
  have Ig8 := hOg.below hC
  have hz8a := hb8.size
  have hs89 : (w8.alloc (.cells #[.int .i64 (ltT side ks t l), .slice Ag (ltL side ks t l).length cg] 30)).heap.size = w8.heap.size + 1 := by simp
  clear xc0 xc1 yc0 yc1
  have hny := hnx3.below h89
  obtain ⟨⟨vw0, vw1⟩, _⟩ := (pW3.below hb8 pW3.lt).at2
  have pR4 := pR3.below h89 pR3.lt
  have pP4 := pP3.below h89 pP3.lt
  have hW4 := hW3.trans (h89.mono hW3.size)
  have pW4 := pW3.below h89 pW3.lt
  have Iw4 := Iw3.below (h89.mono (by omega))
  have pX4 := pX3.below h89 pX3.lt
  have hk4 := hk3.below h89
  have KS4 := KS3.below (h89.mono (by omega))
  have pY4 := pY3.below h89 pY3.lt
  have MB4 := MB3.below h89 MB3.lt
  have hz4 := h89.size
  clear h89 pR3 pP3 hW3 pW3 Iw3 pX3 hk3 KS3 pY3 MB3
  have pG4 := hG
  have Ig4 := hOg.below hC
  clear hG Ig8 hOg hnx3
  obtain ⟨⟨v0, v1⟩, _⟩ := pW4.at2
  obtain ⟨⟨g0, g1⟩, _⟩ := pG4.at2
  go_wp2_with fail
  generalize hZ9 : w8.alloc _ = W9 at *
  generalize hz9 : w8.heap.size = x2 at *
  clear hZ9 hz9 hb8 hC v0 v1 vw0 vw1 g0 g1
  refine (eqPos_same _ _ _ _ _ _ _ (Ig4.is.more (by omega)) (Iw4.is.more (by omega)) hlenL).mono ?_
  rintro e w10 ⟨rfl, hb10⟩
  have hny2 := hny.below hb10
  clear hny
  have pR5 := pR4.below hb10 pR4.lt
  have pP5 := pP4.below hb10 pP4.lt
  have hW5 := hW4.trans (hb10.mono hW4.size)
  have pW5 := pW4.below hb10 pW4.lt
  have Iw5 := Iw4.below (hb10.mono (by omega))
  have pX5 := pX4.below hb10 pX4.lt
  have hk5 := hk4.below hb10
  have KS5 := KS4.below (hb10.mono (by omega))
  have pY5 := pY4.below hb10 pY4.lt
  have MB5 := MB4.below hb10 MB4.lt
  have pG5 := pG4.below hb10 pG4.lt
  have Ig5 := Ig4.below (hb10.mono (by omega))
  have hz5 := hb10.size
  clear hb10 pR4 pP4 hW4 pW4 Iw4 pX4 hk4 KS4 pY4 MB4 pG4 Ig4
  obtain ⟨⟨a0, a1⟩, _⟩ := pR5.at2
  obtain ⟨⟨xa0, xa1⟩, _⟩ := pX5.at2
  go_wp2_with fail
  have hsq := ((HSS.out.below hW5).more hW5.size)
  have HS : Hid (∀ w', Below w10.heap.size w10 w' → (w'.cell? ⟨w.heap.size, 0, none⟩ = some (.int .i64 side) ∧ w'.cell? ⟨w.heap.size, 1, none⟩ = some (.slice A ks.length c) ∧ w'.cell? ⟨x0, 0, none⟩ = some (.int .i64 side) ∧ w'.cell? ⟨x0, 1, none⟩ = some (.slice (some ⟨g4, 0, none⟩) ks.length c4))) := Lib.hid (fun w' hb => by
    obtain ⟨⟨a0, a1⟩, _⟩ := (pR5.below hb pR5.lt).at2
    obtain ⟨⟨b0, b1⟩, _⟩ := (pX5.below hb pX5.lt).at2
    exact ⟨a0, a1, b0, b1⟩)
  have hw : Below w10.heap.size w10 w10.drew := (Below.refl _ _).drew
  go_region_held3 (fun w' => w'.cell? ⟨w.heap.size, 0, none⟩ = some (.int .i64 side) ∧ w'.cell? ⟨w.heap.size, 1, none⟩ = some (.slice A ks.length c) ∧ w'.cell? ⟨x0, 0, none⟩ = some (.int .i64 side) ∧ w'.cell? ⟨x0, 1, none⟩ = some (.slice (some ⟨g4, 0, none⟩) ks.length c4))
    (exact HS.out _ hw)
    (first
      | (go_at_call 8; refine (toRules_any _ _ _ _ _ ((hsq.below hw).more hw.size) HSM.out).mono ?_; rintro e wa2 ⟨ga2, ca2, rfl, hna, hba2⟩; have hw := hw.trans (hba2.mono hw.size))
      | (go_at_call 12; refine (eqRules_same _ _ _ _ _ _ _ (hk5.below hw).is hna.is HSM.out).mono ?_; rintro e wb2 ⟨rfl, hbb2⟩; have hw := hw.trans (hbb2.mono hw.size)))
  have hny3 := hny2.below hw
  clear HS hna a0 a1 xa0 xa1 hsq hny2
  have pR6 := pR5.below hw pR5.lt
  have pP6 := pP5.below hw pP5.lt
  have hW6 := hW5.trans (hw.mono hW5.size)
  have pW6 := pW5.below hw pW5.lt
  have Iw6 := Iw5.below (hw.mono (by omega))
  have pX6 := pX5.below hw pX5.lt
  have KS6 := KS5.below (hw.mono (by omega))
  have pY6 := pY5.below hw pY5.lt
  have MB6 := MB5.below hw MB5.lt
  have pG6 := pG5.below hw pG5.lt
  have Ig6 := Ig5.below (hw.mono (by omega))
  have hz6 := hw.size
  clear hw pR5 pP5 hW5 pW5 Iw5 pX5 hk5 KS5 pY5 MB5 pG5 Ig5
  obtain ⟨⟨b0, b1⟩, _⟩ := pP6.at2
  obtain ⟨⟨ya0, ya1⟩, _⟩ := pY6.at2
  go_wp2_with fail
  have hmq := ((HMM.out.below hW6).more hW6.size)
  have HS : Hid (∀ w', Below wb2.heap.size wb2 w' → (w'.cell? ⟨w.heap.size + 1, 0, none⟩ = some (.int .i64 t) ∧ w'.cell? ⟨w.heap.size + 1, 1, none⟩ = some (.slice M l.length cm) ∧ w'.cell? ⟨x1, 0, none⟩ = some (.int .i64 t) ∧ w'.cell? ⟨x1, 1, none⟩ = some (.slice (some ⟨g6, 0, none⟩) l.length c6))) := Lib.hid (fun w' hb => by
    obtain ⟨⟨a0, a1⟩, _⟩ := (pP6.below hb pP6.lt).at2
    obtain ⟨⟨b0, b1⟩, _⟩ := (pY6.below hb pY6.lt).at2
    exact ⟨a0, a1, b0, b1⟩)
  have hw : Below wb2.heap.size wb2 wb2.drew := (Below.refl _ _).drew
  go_region_held3 (fun w' => w'.cell? ⟨w.heap.size + 1, 0, none⟩ = some (.int .i64 t) ∧ w'.cell? ⟨w.heap.size + 1, 1, none⟩ = some (.slice M l.length cm) ∧ w'.cell? ⟨x1, 0, none⟩ = some (.int .i64 t) ∧ w'.cell? ⟨x1, 1, none⟩ = some (.slice (some ⟨g6, 0, none⟩) l.length c6))
    (exact HS.out _ hw)
    (first
      | (go_at_call 20; refine (toPos_any _ _ _ _ _ ((hmq.below hw).more hw.size) hl2).mono ?_; rintro e wd ⟨gd, cd, rfl, hnd, hbd⟩; have hw := hw.trans (hbd.mono hw.size))
      | (go_at_call 11; refine (eqPos_same _ _ _ _ _ _ _ (hny3.below hw).is hnd.is hl2).mono ?_; rintro e we ⟨rfl, hbe⟩; have hw := hw.trans (hbe.mono hw.size)))
  clear HS hnd b0 b1 ya0 ya1 hmq hny3
  have pR7 := pR6.below hw pR6.lt
  have pP7 := pP6.below hw pP6.lt
  have hW7 := hW6.trans (hw.mono hW6.size)
  have pW7 := pW6.below hw pW6.lt
  have Iw7 := Iw6.below (hw.mono (by omega))
  have pX7 := pX6.below hw pX6.lt
  have KS7 := KS6.below (hw.mono (by omega))
  have pY7 := pY6.below hw pY6.lt
  have MB7 := MB6.below hw MB6.lt
  have pG7 := pG6.below hw pG6.lt
  have Ig7 := Ig6.below (hw.mono (by omega))
  have hz7 := hw.size
  clear hw pR6 pP6 hW6 pW6 Iw6 pX6 KS6 pY6 MB6 pG6 Ig6
  obtain ⟨⟨xd0, xd1⟩, _⟩ := pX7.at2
  go_wp2_with fail
  have lX11 := pX7.lt
  have lY11 := pY7.lt
  have lG11 := pG7.lt
  refine (markRules_any _ _ _ _ _ _ _ _ KS7 HSM.out (by omega) (by omega) (by omega)).mono ?_
  rintro e w12 ⟨k1, rfl, hk11, hk12, sp12⟩
  clear KS7
  have pR8 := sp12.blk pR7 (by omega)
  have pP8 := sp12.blk pP7 (by omega)
  have hW8 := hW7.trans (sp12.toBelow (B := w.heap.size) (by omega) (by omega))
  have pW8 := sp12.blk pW7 (by omega)
  have Iw8 := Iw7.span sp12 (by omega)
  have pY8 := sp12.blk pY7 (by omega)
  have MB8 := sp12.shape _ _ _ MB7
  have pG8 := sp12.blk pG7 (by omega)
  have Ig8 := Ig7.span sp12 (by omega)
  have hz8 := sp12.size
  clear sp12 pR7 pP7 hW7 pW7 Iw7 pX7 pY7 MB7 pG7 Ig7
  obtain ⟨⟨yd0, yd1⟩, _⟩ := pY8.at2
  go_wp2_with fail
  refine (markPos_any W5.heap.size x1 _ _ _ _ _ _ MB8 (by omega) (by omega) hl2 (by omega) (by omega)).mono ?_
  rintro e w13 ⟨k2, rfl, hk21, hk22, sp13⟩
  have pR9 := sp13.blk pR8 (by omega)
  have pP9 := sp13.blk pP8 (by omega)
  have hW9 := hW8.trans (sp13.toBelow (B := w.heap.size) (by omega) (by omega))
  have pW9 := sp13.blk pW8 (by omega)
  have Iw9 := Iw8.span sp13 (by omega)
  have pG9 := sp13.blk pG8 (by omega)
  have Ig9 := Ig8.span sp13 (by omega)
  have hz9 := sp13.size
  clear sp13 pR8 pP8 hW8 pW8 Iw8 pY8 MB8 pG8 Ig8
  have hkn : decide (k2 < 0) = false := decide_eq_false (by omega)
  obtain ⟨⟨v0, v1⟩, _⟩ := pW9.at2
  obtain ⟨⟨g0, g1⟩, _⟩ := pG9.at2
  go_wp2_with fail
  refine (eqPos_same _ _ _ _ _ _ _ (Ig9.is.more (by omega)) (Iw9.is.more (by omega)) hlenL).mono ?_
  rintro e w14 ⟨rfl, hb14⟩
  clear hkn v0 v1 g0 g1
  have pR10 := pR9.below hb14 pR9.lt
  have pP10 := pP9.below hb14 pP9.lt
  have hW10 := hW9.trans (hb14.mono hW9.size)
  have pW10 := pW9.below hb14 pW9.lt
  have Iw10 := Iw9.below (hb14.mono (by omega))
  have pG10 := pG9.below hb14 pG9.lt
  have Ig10 := Ig9.below (hb14.mono (by omega))
  have hz10 := hb14.size
  clear hb14 pR9 pP9 hW9 pW9 Iw9 pG9 Ig9
  obtain ⟨⟨g0, g1⟩, _⟩ := pG10.at2
  go_wp2_with fail
  refine (markPosA_any _ _ _ _ _ _ _ _ Ig10 (by omega) hlenL (by omega) (by omega)).mono ?_
  rintro e w15 ⟨rfl, Igm, sp15⟩
  clear g0 g1
  have pR11 := sp15.blk pR10 (by omega)
  have pP11 := sp15.blk pP10 (by omega)
  have hW11 := hW10.trans (sp15.toBelow (B := w.heap.size) (by omega) (by omega))
  have pW11 := sp15.blk pW10 (by omega)
  have Iw11 := Iw10.span sp15 (by omega)
  have pG11 := sp15.blk pG10 (by omega)
  have hz11 := sp15.size
  clear sp15 pR10 pP10 hW10 pW10 Iw10 pG10 Ig10
  have Ig11 := Igm
  clear Igm
  obtain ⟨⟨g0, g1⟩, _⟩ := pG11.at2
  go_wp2_with fail
  refine (heldPosA_any _ _ _ _ _ _ (Ig11.is.more (by omega)) hlenL (by omega) (by omega)).mono ?_
  rintro e w16 ⟨rfl, hb16⟩
  clear g0 g1
  have hln : decide (1 + 3 * ((ltL side ks t l).length : Int) < 0) = false := decide_eq_false (by omega)
  have pR12 := pR11.below hb16 pR11.lt
  have pP12 := pP11.below hb16 pP11.lt
  have hW12 := hW11.trans (hb16.mono hW11.size)
  have pW12 := pW11.below hb16 pW11.lt
  have Iw12 := Iw11.below (hb16.mono (by omega))
  have pG12 := pG11.below hb16 pG11.lt
  have Ig12 := Ig11.below (hb16.mono (by omega))
  have hz12 := hb16.size
  clear hb16 pR11 pP11 hW11 pW11 Iw11 pG11 Ig11
  obtain ⟨⟨a0, a1⟩, _⟩ := pR12.at2
  obtain ⟨⟨b0, b1⟩, _⟩ := pP12.at2
  go_wp2_with fail
  have hs16 := ((HSS.out.below hW12).more hW12.size)
  have hm16 := ((HMM.out.below hW12).more hW12.size)
  have hlow0 := pP12.lt
  go_cut [13] from 75 (fun s6 wx => ∃ (bw : Nat) (Aw : Option Addr) (cw : Nat), s6 = .pointer (some ⟨bw, 0, none⟩) ∧ w16.heap.size ≤ bw ∧ Blk wx bw #[.int .i64 (ltT side ks t l), .slice Aw (ltL side ks t l).length cw] 30 ∧ MenA w16.heap.size wx.heap.size wx Aw (ltL side ks t l) ∧ Below w16.heap.size w16 wx)
  case first =>
    have HS : Hid (∀ w', Below w16.heap.size w16 w' → (w'.cell? ⟨w.heap.size, 0, none⟩ = some (.int .i64 side) ∧ w'.cell? ⟨w.heap.size, 1, none⟩ = some (.slice A ks.length c) ∧ w'.cell? ⟨w.heap.size + 1, 0, none⟩ = some (.int .i64 t) ∧ w'.cell? ⟨w.heap.size + 1, 1, none⟩ = some (.slice M l.length cm))) := Lib.hid (fun w' hb => by
      obtain ⟨⟨a0, a1⟩, _⟩ := (pR12.below hb pR12.lt).at2
      obtain ⟨⟨b0, b1⟩, _⟩ := (pP12.below hb pP12.lt).at2
      exact ⟨a0, a1, b0, b1⟩)
    have hw : Below w16.heap.size w16 w16.drew := (Below.refl _ _).drew
    go_region_held3 (fun w' => w'.cell? ⟨w.heap.size, 0, none⟩ = some (.int .i64 side) ∧ w'.cell? ⟨w.heap.size, 1, none⟩ = some (.slice A ks.length c) ∧ w'.cell? ⟨w.heap.size + 1, 0, none⟩ = some (.int .i64 t) ∧ w'.cell? ⟨w.heap.size + 1, 1, none⟩ = some (.slice M l.length cm))
      (exact HS.out _ (by first | exact hw | exact hw.alloc (by first | omega | (simp; done) | (have := hw.size; simp; omega)) _ | exact (hw.setCell (by first | omega | (simp; done) | (simp; omega)) _).setCell (by first | omega | (simp; done) | (simp; omega)) _))
      (first
        | (go_at_call 8; refine (toRules_any _ _ _ _ _ ((hs16.below (by first | exact hw | exact hw.alloc (by first | omega | (simp; done) | (have := hw.size; simp; omega)) _)).more (by first | exact hw.size | (have := hw.size; simp; done) | (have := hw.size; simp; omega))) HSM.out).mono ?_; rintro e wa ⟨ga, ca, rfl, hna, hba⟩; have hw : Below w16.heap.size w16 wa := Below.trans (by first | exact hw | exact hw.alloc (by first | omega | (simp; done) | (have := hw.size; simp; omega)) _) (hba.mono (by first | exact hw.size | (have := hw.size; simp; done) | (have := hw.size; simp; omega))); have hws := hw.size; (first | (have hx := hx.below hba hx.lt; have hxl := hx.lt) | (have hx : Blk wa w16.heap.size #[.int .i64 0, .slice none 0 0] 30 := (Blk.new w16.drew _ _).below hba (by simp); have hxl := hx.lt) | (have hx : Blk wa _ #[.int .i64 0, .slice none 0 0] 30 := (Blk.new _ _ _).below hba (by simp); have hxl := hx.lt) | skip); try (have hnb : NewMen _ wa _ _ := hnb.below (by first | exact hba | exact (below_of _ _).trans (hba.mono (by simp)))))
        | (go_at_call 20; refine (toPos_any _ _ _ _ _ ((hm16.below (by first | exact hw | exact hw.alloc (by first | omega | (simp; done) | (have := hw.size; simp; omega)) _)).more (by first | exact hw.size | (have := hw.size; simp; done) | (have := hw.size; simp; omega))) hl2).mono ?_; rintro e wb ⟨gb, cb, rfl, hnb, hbb⟩; have hw : Below w16.heap.size w16 wb := Below.trans (by first | exact hw | exact hw.alloc (by first | omega | (simp; done) | (have := hw.size; simp; omega)) _) (hbb.mono (by first | exact hw.size | (have := hw.size; simp; done) | (have := hw.size; simp; omega))); have hws := hw.size; (first | (have hx := hx.below hbb hx.lt; have hxl := hx.lt) | (have hx : Blk wb w16.heap.size #[.int .i64 0, .slice none 0 0] 30 := (Blk.new w16.drew _ _).below hbb (by simp); have hxl := hx.lt) | (have hx : Blk wb _ #[.int .i64 0, .slice none 0 0] 30 := (Blk.new _ _ _).below hbb (by simp); have hxl := hx.lt) | skip); try (have hna : NewKinds _ wb _ _ := hna.below (by first | exact hbb | exact (below_of _ _).trans (hbb.mono (by simp)))))
        | (go_at_call 21; refine (turnLeast_any _ _ _ _ _ _ _ _ _ (by first | exact hna.is | exact (hna.below (below_of _ _)).is) (by first | exact hnb.is | exact (hnb.below (below_of _ _)).is) HSM.out hl2).mono ?_; rintro e wg ⟨Aw, cw, rfl, hIw, hbg⟩; have hw : Below w16.heap.size w16 wg := Below.trans (by first | exact hw | exact hw.alloc (by first | omega | (simp; done) | (have := hw.size; simp; omega)) _) (hbg.mono (by first | exact hw.size | (have := hw.size; simp; done) | (have := hw.size; simp; omega))); have hws := hw.size; (first | (have hx := hx.below hbg hx.lt; have hxl := hx.lt) | (have hx : Blk wg w16.heap.size #[.int .i64 0, .slice none 0 0] 30 := (Blk.new w16.drew _ _).below hbg (by simp); have hxl := hx.lt) | (have hx : Blk wg _ #[.int .i64 0, .slice none 0 0] 30 := (Blk.new _ _ _).below hbg (by simp); have hxl := hx.lt) | skip); try (obtain ⟨⟨hx0, hx1⟩, ⟨hx2, hx3⟩⟩ := hx.at2)))
    all_goals
      have hws2 : w16.heap.size ≤ wg.heap.size := hw.size
      go_wp2_with fail
      go_meet
      first
        | exact ⟨_, _, _, rfl, hws2, Blk.new wg _ _, (hIw.below (below_of wg _)).more (by first | omega | (simp; omega)) (by simp), hw.alloc hws2 _⟩
        | exact ⟨_, _, _, rfl, by first | exact Nat.le_refl _ | omega, hx.set2 _ _, ((hIw.other ⟨_, 0, none⟩ _ (by (try dsimp only); first | omega | (simp; done) | (simp; omega))).other ⟨_, 1, none⟩ _ (by (try dsimp only); first | omega | (simp; done) | (simp; omega))).more (by first | omega | (simp; done) | (simp; omega)) (by simp), (hw.setCell (by (try dsimp only); first | exact Nat.le_refl _ | omega) _).setCell (by (try dsimp only); first | exact Nat.le_refl _ | omega) _⟩
  obtain ⟨bw, Aw, cw, rfl, hbw, pw0, iw0, hb0⟩ := hcut
  clear a0 a1 b0 b1 hs16 hm16
  have hW13 := hW12.trans (hb0.mono hW12.size)
  have pW13 := pW12.below hb0 pW12.lt
  have Iw13 := Iw12.below (hb0.mono (by omega))
  have pG13 := pG12.below hb0 pG12.lt
  have Ig13 := Ig12.below (hb0.mono (by omega))
  have hz13 := hb0.size
  clear hb0 pR12 pP12 hW12 pW12 Iw12 pG12 Ig12
  have pH13 := pw0
  have Ih13 := iw0
  obtain ⟨⟨v0, v1⟩, _⟩ := pW13.at2
  obtain ⟨⟨h0, h1⟩, _⟩ := pw0.at2
  go_wp2_with fail
  refine (eqPos_same _ _ _ _ _ _ _ iw0.is (Iw13.is.more (by omega)) hlenL).mono ?_
  rintro e w18 ⟨rfl, hb18⟩
  clear v0 v1 h0 h1 pw0 iw0 pH13 Ih13
  have hW14 := hW13.trans (hb18.mono hW13.size)
  have pG14 := pG13.below hb18 pG13.lt
  have Ig14 := Ig13.below (hb18.mono (by omega))
  have hz14 := hb18.size
  clear hb18 hW13 pW13 Iw13 pG13 Ig13
  obtain ⟨⟨g0, g1⟩, _⟩ := pG14.at2
  go_wp2_with fail
  refine (heldPosA_any _ _ _ _ _ _ (Ig14.is.more (by omega)) hlenL (by omega) (by omega)).mono ?_
  rintro e w19 ⟨rfl, hb19⟩
  have hWz := hW14.trans (hb19.mono hW14.size)
  go_wp2_with fail
  go_ret
  exact ⟨rfl, hWz⟩
end Go.Proofs.YtmfcgikfgikbfaaGreat.Laws
