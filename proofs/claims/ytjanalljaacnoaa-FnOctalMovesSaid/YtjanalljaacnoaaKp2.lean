/- OctalMoves by the program. -/
import Derived.Test.YtjanalljaacnoaaKn
namespace Go.Proofs.Ytjanalljaacnoaa.Ko
open Go.ChangeShapes Go.WideShapes Go.ChangeAt Go.RowKit Base Sq In
set_option linter.unusedVariables false
set_option maxRecDepth 20000
attribute [local irreducible] wpQuiet

def conL (d R : Int) (j : Nat) : List Pr := ((wayK d 3).take j).flatMap fun t => contr t R
theorem ways_octAt {c : List Int} {m k : Nat} {R : Int} (hr : (m : Int) - k - 1 = R) (hR : 0 ≤ R) {d : Int} (hd : iAt c k = d) (h : 0 ≤ d ∧ d ≤ 7) : octAt c m k = conL d R (wayK d 3).length := by
  unfold conL
  rw [List.take_length]
  rcases Int.lt_or_eq_of_le hR with h0 | h0
  · rw [octAt_pos hr h0 hd]
    have h1 : ¬ R = 0 := by omega
    obtain rfl | rfl | rfl | rfl | rfl | rfl | rfl | rfl : d = 0 ∨ d = 1 ∨ d = 2 ∨ d = 3 ∨ d = 4 ∨ d = 5 ∨ d = 6 ∨ d = 7 := by omega
    all_goals simp [wayK, contr, h0, h1]
  · subst h0
    rw [octAt_zero hr hd]
    obtain rfl | rfl | rfl | rfl | rfl | rfl | rfl | rfl : d = 0 ∨ d = 1 ∨ d = 2 ∨ d = 3 ∨ d = 4 ∨ d = 5 ∨ d = 6 ∨ d = 7 := by omega
    all_goals simp [wayK, contr, splitK]
theorem wayK_lt {d : Int} {k t : Nat} (h : t ∈ wayK d k) : t < k := by
  induction k with
  | zero => simp [wayK] at h
  | succ k ih =>
    unfold wayK at h
    split at h
    · rcases List.mem_append.1 h with h | h
      · have := ih h; omega
      · simp at h; omega
    · have := ih h; omega
theorem conL_next {d R : Int} {j t : Nat} (h : (wayK d 3)[j]? = some t) : conL d R (j + 1) = conL d R j ++ contr t R := by
  unfold conL
  obtain ⟨hj, rfl⟩ := List.getElem?_eq_some_iff.1 h
  rw [List.take_succ_eq_append_getElem hj, List.flatMap_append]
  simp
theorem contr_len {t : Nat} {R : Int} (h : 0 ≤ R) (h6 : R ≤ 60) : (contr t R).length ≤ 30 := by
  unfold contr
  split
  · split <;> simp
  · split
    · split <;> simp
    · rw [splitK_len]; omega
theorem conL_len {d R : Int} (h : 0 ≤ R) (h6 : R ≤ 60) (j : Nat) (hj : j ≤ (wayK d 3).length) : (conL d R j).length ≤ 30 * j := by
  induction j with
  | zero => unfold conL; simp
  | succ j ih =>
    have h1 := ih (by omega)
    have h2 : (wayK d 3)[j]? = some ((wayK d 3)[j]'(by omega)) := List.getElem?_eq_getElem (by omega)
    have h3 := contr_len (t := (wayK d 3)[j]'(by omega)) h h6
    rw [conL_next h2, List.length_append]
    omega
/-- a list and what the first j ways leave -/
def adL (P : List Pr) (d R : Int) (j : Nat) : List Pr := P ++ conL d R j
theorem adL_zero (P : List Pr) (d R : Int) : adL P d R 0 = P := by unfold adL conL; simp
theorem adL_next (P : List Pr) {d R : Int} {j t : Nat} (h : (wayK d 3)[j]? = some t) : adL P d R (j + 1) = adL P d R j ++ contr t R := by
  unfold adL; rw [conL_next h, List.append_assoc]
theorem adL_len (P : List Pr) {d R : Int} (h : 0 ≤ R) (h6 : R ≤ 60) {j : Nat} (hj : j ≤ (wayK d 3).length) : (adL P d R j).length ≤ P.length + 30 * j := by
  unfold adL
  have := conL_len (d := d) h h6 j hj
  rw [List.length_append]
  omega
theorem wayL_length (d : Int) : (wayL d 3).length = (wayK d 3).length := by unfold wayL; rw [List.length_map]
set_option maxHeartbeats 4000000 in
theorem octalMoves_any (V : Option Addr) (cv : Nat) (c : List Int) (q : Int) (w : World) (hV : IsInts w w.heap.size V c) (hz : c.length ≤ 1048576) (hcap : c.length ≤ cv) :
    Calls Try.prog 37 #[.slice V c.length cv, .int .i64 q] w fun e w' => PairNew 45 w w' (octMV c q) e := by
  obtain ⟨j0, hj, hy0, hy1, hy2⟩ := info_parts infoLeft
  cases hs : octB c
  · have HS := Lib.hid hs
    have HN := Lib.hid (octMV_no (c := c) (q := q) (fun h => by rw [hs] at h; cases h.1))
    clear hs
    go_enter Try.func37, Try.ntmps37
    go_wp2_with (go_at_call 35; refine (octalOk_any _ _ _ _ hV hz).mono ?_; rw [HS.out]; rintro e w' ⟨rfl, rfl⟩)
    go_ret
    rw [HN.out]
    exact pairNew_of (l := []) (OwnP.nil _ _ _) (Below.refl _ _)
  · have HS := Lib.hid hs
    cases hq : inB q 0 60
    · have HQ := Lib.hid hq
      have HN := Lib.hid (octMV_no (c := c) (q := q) (fun h => inB_out hq h.2))
      clear hs hq
      go_enter Try.func37, Try.ntmps37
      go_wp2_with (first | (go_at_call 35; refine (octalOk_any _ _ _ _ hV hz).mono ?_; rw [HS.out]; rintro e w' ⟨rfl, rfl⟩) | (go_at_call 52; refine (heapOk_any _ _).mono ?_; rw [HQ.out]; rintro e w2 ⟨rfl, rfl⟩))
      go_ret
      rw [HN.out]
      exact pairNew_of (l := []) (OwnP.nil _ _ _) (Below.refl _ _)
    · have HQ := Lib.hid hq
      obtain ⟨q1, q2⟩ := inB_in hq
      obtain ⟨m, rfl⟩ := Int.eq_ofNat_of_zero_le q1
      have hm : m ≤ 60 := by omega
      have hsl := octB_len hs
      obtain ⟨b, rfl⟩ := hV.some (by omega)
      have hO0 : OwnP 45 w w.heap.size (.slice none 0 0) (octK c m 0) := OwnP.nil _ _ _
      have HV := Lib.hid hV
      have hcv : (c.length : Int) ≤ (cv : Int) := by omega
      clear hq q1 q2 hV
      rcases Nat.lt_or_ge m c.length with hml | hml
      · have hmv : (m : Int) ≤ (cv : Int) := by omega
        have HN := Lib.hid (show octMV c m = octK c m m by rw [octMV_yes hs hm, octM_lim]; congr 1; omega)
        clear hs
        go_enter Try.func37, Try.ntmps37
        go_wp2_with (first | (go_at_call 35; refine (octalOk_any _ _ _ _ HV.out hz).mono ?_; rw [HS.out]; rintro e w' ⟨rfl, rfl⟩) | (go_at_call 52; refine (heapOk_any _ _).mono ?_; rw [HQ.out]; rintro e w2 ⟨rfl, rfl⟩))
        go_loopw [5, 26] (fun v i wr => ∃ (k : Nat) (A : Option Addr) (a : Nat), k ≤ m ∧ i = .int .i64 k ∧ v = .slice A (octK c m k).length a ∧ OwnP 45 wr w.heap.size (.slice A (octK c m k).length a) (octK c m k) ∧ Below w.heap.size w wr) (fun _ i _ => m - (intOf i).toNat)
        case atStart => exact ⟨0, _, _, by omega, rfl, rfl, hO0, Below.refl _ _⟩
        case round =>
          clear hO0
          obtain ⟨k, A, a, hk, rfl, rfl, hO, hbe⟩ := hrel
          have hol := octK_few (c := c) hm (show k ≤ 4 by omega)
          by_cases hlt : k < m
          · have hltI : (k : Int) < (m : Int) := by omega
            have hkc : k < c.length := by omega
            obtain ⟨hBb, c0⟩ := (HV.out.below hbe).at hkc
            have hdr := octB_in HS.out hkc
            have hsz := hbe.size
            obtain ⟨d, hd⟩ : ∃ d, iAt c k = d := ⟨_, rfl⟩
            rw [hd] at c0 hdr
            obtain ⟨R, hR⟩ : ∃ R : Int, (m : Int) - k - 1 = R := ⟨_, rfl⟩
            have hR0 : 0 ≤ R := by omega
            have hR6 : R ≤ 60 := by omega
            have w1 : IntKind.i64.wrap ((k : Int) + 1) = (k : Int) + 1 := IntWalk.i64_in _ (by omega)
            have w2 : (m : Int) - ((k : Int) + 1) = R := by omega
            have w3 : IntKind.i64.wrap ((m : Int) - ((k : Int) + 1)) = R := by rw [w2]; exact IntWalk.i64_in _ (by omega)
            have HE := Lib.hid (show adL (octK c m k) d R (wayK d 3).length = octK c m (k + 1) by rw [octK_next, ways_octAt hR hR0 hd hdr]; rfl)
            have HO := Lib.hid hO
            have HB := Lib.hid hbe
            clear hd hO hbe hR
            go_wp2_with (go_at_call 69; refine (leavingsOf_any d _ hdr).mono ?_; rintro e w4 ⟨Aw, cw, rfl, hW, hb4⟩)
            have HW := Lib.hid hW
            have hs4 := hb4.size
            have HB4 := Lib.hid (HB.out.trans (hb4.mono hsz))
            have HI := Lib.hid (show OwnP 45 w4 w.heap.size (.slice A (adL (octK c m k) d R 0).length a) (adL (octK c m k) d R 0) by rw [adL_zero]; exact HO.out.below hb4)
            rw [show (octK c m k).length = (adL (octK c m k) d R 0).length by rw [adL_zero]]
            clear hW hb4 HO c0
            generalize hwa : wr = wa at *
            clear hwa
            go_loopw [5, 38] (fun v i wr => ∃ (j : Nat) (A : Option Addr) (a : Nat), j ≤ (wayL d 3).length ∧ i = .int .i64 j ∧ v = .slice A (adL (octK c m k) d R j).length a ∧ OwnP 45 wr w.heap.size (.slice A (adL (octK c m k) d R j).length a) (adL (octK c m k) d R j) ∧ Below w.heap.size w wr ∧ Hid (OwnL 73 wr wa.heap.size (.slice Aw (wayL d 3).length cw) (wayL d 3))) (fun _ i _ => (wayL d 3).length - (intOf i).toNat)
            case atStart => exact ⟨0, _, _, by omega, rfl, rfl, HI.out, HB4.out, HW⟩
            case round =>
              clear HI HW HB4
              obtain ⟨j, B2, d2, hjj, rfl, rfl, hL, hbk, HW⟩ := hrel
              have hwl := wayL_length d
              have hwl3 := wayL_len d 3
              have hal := adL_len (octK c m k) (d := d) hR0 hR6 (j := j) (by omega)
              have hsk := hbk.size
              by_cases hjl : j < (wayL d 3).length
              · have hjlI : (j : Int) < ((wayL d 3).length : Int) := by omega
                obtain ⟨t, ht⟩ : ∃ t, (wayK d 3)[j]? = some t := ⟨_, List.getElem?_eq_getElem (by omega)⟩
                have ht3 : t < 3 := wayK_lt (List.mem_of_getElem? ht)
                have hu : (wayL d 3)[j]? = some (wayV t) := by unfold wayL; rw [List.getElem?_map, ht]; rfl
                obtain ⟨bw, rfl, hbw, e0⟩ := HW.out.cell hu
                have HA := Lib.hid (adL_next (octK c m k) (R := R) ht)
                have hcl := contr_len (t := t) hR0 hR6
                have HL := Lib.hid hL
                have HK := Lib.hid hbk
                clear hL hbk ht hu hwl
                have hmx : (adL (octK c m k) d R j).length + (contr t R).length ≤ maxLen := by unfold maxLen; omega
                have hby : ((adL (octK c m k) d R j).length + (contr t R).length) * 16 ≤ 140737488355328 := by omega
                clear hal hcl
                have ht012 : t = 0 ∨ t = 1 ∨ t = 2 := by omega
                clear ht3
                rcases ht012 with rfl | rfl | rfl
                · have e1 : wr.cell? ⟨bw, j, none⟩ = some (.iface 84 (.agg #[])) := e0
                  have hmt : ∀ w' : World, (method 205 84 (.agg #[]) "loop.example/zugzwang/impl.of").run Try.prog w' = .ok (98, .agg #[]) w' := fun _ => by kernel_rfl
                  clear e0
                  go_wp2_with (first
                    | (go_at_call 98; refine (leaveNothing_any R _ hR0).mono ?_; rintro e w5 ⟨A5, c5, rfl, hN5, hb5⟩; have HN5 := Lib.hid hN5.is; have hs5 := hb5.size; have HO5 := Lib.hid (HL.out.below hb5); have HW5 := Lib.hid (HW.out.below hb5); have HB5 := Lib.hid (HK.out.trans (hb5.mono hsk)); clear hN5 hb5)
                    | (at_builtin; refine wpList_append_prs _ rfl _ _ 42 rfl w.heap.size 45 j0 Try.underlying42 hj hy0 hy1 hy2 _ _ _ _ _ rfl HO5.out _ _ rfl HN5.out HA.out hmx hby (by omega) ?_; intro B7 d7 w7 hO7 hb7 hk7))
                  have HW7 := Lib.hid (HW5.out.kept (fun g vs hb => hk7 g vs _ (by decide) hb))
                  have hb7 := HB5.out.trans hb7
                  clear hk7 hmx hby
                  go_roundw
                  case rel =>
                    have RR : j + 1 ≤ (wayL d 3).length ∧ Value.int .i64 ((j : Int) + 1) = .int .i64 ((j + 1 : Nat) : Int) ∧ Value.slice B7 (adL (octK c m k) d R (j + 1)).length d7 = .slice B7 (adL (octK c m k) d R (j + 1)).length d7 ∧ OwnP 45 w7 w.heap.size (.slice B7 (adL (octK c m k) d R (j + 1)).length d7) (adL (octK c m k) d R (j + 1)) ∧ Below w.heap.size w w7 ∧ Hid (OwnL 73 w7 wa.heap.size (.slice (some ⟨bw, 0, none⟩) (wayL d 3).length cw) (wayL d 3)) := ⟨by omega, by go_num, rfl, hO7, hb7, HW7⟩
                    first
                      | exact ⟨j + 1, B7, d7, RR⟩
                      | ((repeat apply Exists.intro); exact ⟨⟨j + 1, B7, d7, RR⟩, rfl⟩)
                  case measure => simp [intOf]; omega
                · have e1 : wr.cell? ⟨bw, j, none⟩ = some (.iface 85 (.agg #[])) := e0
                  have hmt : ∀ w' : World, (method 205 85 (.agg #[]) "loop.example/zugzwang/impl.of").run Try.prog w' = .ok (99, .agg #[]) w' := fun _ => by kernel_rfl
                  clear e0
                  go_wp2_with (first
                    | (go_at_call 99; refine (leaveOne_any R _ hR0).mono ?_; rintro e w5 ⟨A5, c5, rfl, hN5, hb5⟩; have HN5 := Lib.hid hN5.is; have hs5 := hb5.size; have HO5 := Lib.hid (HL.out.below hb5); have HW5 := Lib.hid (HW.out.below hb5); have HB5 := Lib.hid (HK.out.trans (hb5.mono hsk)); clear hN5 hb5)
                    | (at_builtin; refine wpList_append_prs _ rfl _ _ 42 rfl w.heap.size 45 j0 Try.underlying42 hj hy0 hy1 hy2 _ _ _ _ _ rfl HO5.out _ _ rfl HN5.out HA.out hmx hby (by omega) ?_; intro B7 d7 w7 hO7 hb7 hk7))
                  have HW7 := Lib.hid (HW5.out.kept (fun g vs hb => hk7 g vs _ (by decide) hb))
                  have hb7 := HB5.out.trans hb7
                  clear hk7 hmx hby
                  go_roundw
                  case rel =>
                    have RR : j + 1 ≤ (wayL d 3).length ∧ Value.int .i64 ((j : Int) + 1) = .int .i64 ((j + 1 : Nat) : Int) ∧ Value.slice B7 (adL (octK c m k) d R (j + 1)).length d7 = .slice B7 (adL (octK c m k) d R (j + 1)).length d7 ∧ OwnP 45 w7 w.heap.size (.slice B7 (adL (octK c m k) d R (j + 1)).length d7) (adL (octK c m k) d R (j + 1)) ∧ Below w.heap.size w w7 ∧ Hid (OwnL 73 w7 wa.heap.size (.slice (some ⟨bw, 0, none⟩) (wayL d 3).length cw) (wayL d 3)) := ⟨by omega, by go_num, rfl, hO7, hb7, HW7⟩
                    first
                      | exact ⟨j + 1, B7, d7, RR⟩
                      | ((repeat apply Exists.intro); exact ⟨⟨j + 1, B7, d7, RR⟩, rfl⟩)
                  case measure => simp [intOf]; omega
                · have e1 : wr.cell? ⟨bw, j, none⟩ = some (.iface 86 (.agg #[])) := e0
                  have hmt : ∀ w' : World, (method 205 86 (.agg #[]) "loop.example/zugzwang/impl.of").run Try.prog w' = .ok (100, .agg #[]) w' := fun _ => by kernel_rfl
                  clear e0
                  go_wp2_with (first
                    | (go_at_call 100; refine (leaveTwo_any R _ hR0 hR6).mono ?_; rintro e w5 ⟨A5, c5, rfl, hN5, hb5⟩; have HN5 := Lib.hid hN5.is; have hs5 := hb5.size; have HO5 := Lib.hid (HL.out.below hb5); have HW5 := Lib.hid (HW.out.below hb5); have HB5 := Lib.hid (HK.out.trans (hb5.mono hsk)); clear hN5 hb5)
                    | (at_builtin; refine wpList_append_prs _ rfl _ _ 42 rfl w.heap.size 45 j0 Try.underlying42 hj hy0 hy1 hy2 _ _ _ _ _ rfl HO5.out _ _ rfl HN5.out HA.out hmx hby (by omega) ?_; intro B7 d7 w7 hO7 hb7 hk7))
                  have HW7 := Lib.hid (HW5.out.kept (fun g vs hb => hk7 g vs _ (by decide) hb))
                  have hb7 := HB5.out.trans hb7
                  clear hk7 hmx hby
                  go_roundw
                  case rel =>
                    have RR : j + 1 ≤ (wayL d 3).length ∧ Value.int .i64 ((j : Int) + 1) = .int .i64 ((j + 1 : Nat) : Int) ∧ Value.slice B7 (adL (octK c m k) d R (j + 1)).length d7 = .slice B7 (adL (octK c m k) d R (j + 1)).length d7 ∧ OwnP 45 w7 w.heap.size (.slice B7 (adL (octK c m k) d R (j + 1)).length d7) (adL (octK c m k) d R (j + 1)) ∧ Below w.heap.size w w7 ∧ Hid (OwnL 73 w7 wa.heap.size (.slice (some ⟨bw, 0, none⟩) (wayL d 3).length cw) (wayL d 3)) := ⟨by omega, by go_num, rfl, hO7, hb7, HW7⟩
                    first
                      | exact ⟨j + 1, B7, d7, RR⟩
                      | ((repeat apply Exists.intro); exact ⟨⟨j + 1, B7, d7, RR⟩, rfl⟩)
                  case measure => simp [intOf]; omega
              · obtain rfl : j = (wayL d 3).length := by omega
                have HE3 := Lib.hid (show adL (octK c m k) d R (wayL d 3).length = octK c m (k + 1) by rw [hwl]; exact HE.out)
                rw [HE3.out] at hL
                rw [show (adL (octK c m k) d R (wayL d 3).length).length = (octK c m (k + 1)).length by rw [HE3.out]]
                clear hal hwl
                go_wp2_with fail
                go_roundw
                case rel =>
                  have RR : k + 1 ≤ m ∧ Value.int .i64 ((k : Int) + 1) = .int .i64 ((k + 1 : Nat) : Int) ∧ Value.slice B2 (octK c m (k + 1)).length d2 = .slice B2 (octK c m (k + 1)).length d2 ∧ OwnP 45 wr w.heap.size (.slice B2 (octK c m (k + 1)).length d2) (octK c m (k + 1)) ∧ Below w.heap.size w wr := ⟨by omega, by go_num, rfl, hL, hbk⟩
                  first
                    | exact ⟨k + 1, B2, d2, RR⟩
                    | ((repeat apply Exists.intro); exact ⟨⟨k + 1, B2, d2, RR⟩, rfl⟩)
                case measure => simp [intOf]; omega
          · obtain rfl : k = m := by omega
            go_wp2_with fail
            go_ret
            rw [HN.out]
            exact pairNew_of hO hbe
      · have hml2 : (c.length : Int) ≤ (m : Int) := by omega
        have hml3 : decide (m < c.length) = false := decide_eq_false (by omega)
        have HN := Lib.hid (show octMV c m = octK c m c.length by rw [octMV_yes hs hm, octM_lim]; congr 1; omega)
        clear hs
        go_enter Try.func37, Try.ntmps37
        go_wp2_with (first | (go_at_call 35; refine (octalOk_any _ _ _ _ HV.out hz).mono ?_; rw [HS.out]; rintro e w' ⟨rfl, rfl⟩) | (go_at_call 52; refine (heapOk_any _ _).mono ?_; rw [HQ.out]; rintro e w2 ⟨rfl, rfl⟩))
        go_loopw [5, 26] (fun v i wr => ∃ (k : Nat) (A : Option Addr) (a : Nat), k ≤ c.length ∧ i = .int .i64 k ∧ v = .slice A (octK c m k).length a ∧ OwnP 45 wr w.heap.size (.slice A (octK c m k).length a) (octK c m k) ∧ Below w.heap.size w wr) (fun _ i _ => c.length - (intOf i).toNat)
        case atStart => exact ⟨0, _, _, by omega, rfl, rfl, hO0, Below.refl _ _⟩
        case round =>
          clear hO0
          obtain ⟨k, A, a, hk, rfl, rfl, hO, hbe⟩ := hrel
          have hol := octK_few (c := c) hm (show k ≤ 4 by omega)
          by_cases hlt : k < c.length
          · have hltI : (k : Int) < (c.length : Int) := by omega
            have hkc : k < c.length := by omega
            obtain ⟨hBb, c0⟩ := (HV.out.below hbe).at hkc
            have hdr := octB_in HS.out hkc
            have hsz := hbe.size
            obtain ⟨d, hd⟩ : ∃ d, iAt c k = d := ⟨_, rfl⟩
            rw [hd] at c0 hdr
            obtain ⟨R, hR⟩ : ∃ R : Int, (m : Int) - k - 1 = R := ⟨_, rfl⟩
            have hR0 : 0 ≤ R := by omega
            have hR6 : R ≤ 60 := by omega
            have w1 : IntKind.i64.wrap ((k : Int) + 1) = (k : Int) + 1 := IntWalk.i64_in _ (by omega)
            have w2 : (m : Int) - ((k : Int) + 1) = R := by omega
            have w3 : IntKind.i64.wrap ((m : Int) - ((k : Int) + 1)) = R := by rw [w2]; exact IntWalk.i64_in _ (by omega)
            have HE := Lib.hid (show adL (octK c m k) d R (wayK d 3).length = octK c m (k + 1) by rw [octK_next, ways_octAt hR hR0 hd hdr]; rfl)
            have HO := Lib.hid hO
            have HB := Lib.hid hbe
            clear hd hO hbe hR
            go_wp2_with (go_at_call 69; refine (leavingsOf_any d _ hdr).mono ?_; rintro e w4 ⟨Aw, cw, rfl, hW, hb4⟩)
            have HW := Lib.hid hW
            have hs4 := hb4.size
            have HB4 := Lib.hid (HB.out.trans (hb4.mono hsz))
            have HI := Lib.hid (show OwnP 45 w4 w.heap.size (.slice A (adL (octK c m k) d R 0).length a) (adL (octK c m k) d R 0) by rw [adL_zero]; exact HO.out.below hb4)
            rw [show (octK c m k).length = (adL (octK c m k) d R 0).length by rw [adL_zero]]
            clear hW hb4 HO c0
            generalize hwa : wr = wa at *
            clear hwa
            go_loopw [5, 38] (fun v i wr => ∃ (j : Nat) (A : Option Addr) (a : Nat), j ≤ (wayL d 3).length ∧ i = .int .i64 j ∧ v = .slice A (adL (octK c m k) d R j).length a ∧ OwnP 45 wr w.heap.size (.slice A (adL (octK c m k) d R j).length a) (adL (octK c m k) d R j) ∧ Below w.heap.size w wr ∧ Hid (OwnL 73 wr wa.heap.size (.slice Aw (wayL d 3).length cw) (wayL d 3))) (fun _ i _ => (wayL d 3).length - (intOf i).toNat)
            case atStart => exact ⟨0, _, _, by omega, rfl, rfl, HI.out, HB4.out, HW⟩
            case round =>
              clear HI HW HB4
              obtain ⟨j, B2, d2, hjj, rfl, rfl, hL, hbk, HW⟩ := hrel
              have hwl := wayL_length d
              have hwl3 := wayL_len d 3
              have hal := adL_len (octK c m k) (d := d) hR0 hR6 (j := j) (by omega)
              have hsk := hbk.size
              by_cases hjl : j < (wayL d 3).length
              · have hjlI : (j : Int) < ((wayL d 3).length : Int) := by omega
                obtain ⟨t, ht⟩ : ∃ t, (wayK d 3)[j]? = some t := ⟨_, List.getElem?_eq_getElem (by omega)⟩
                have ht3 : t < 3 := wayK_lt (List.mem_of_getElem? ht)
                have hu : (wayL d 3)[j]? = some (wayV t) := by unfold wayL; rw [List.getElem?_map, ht]; rfl
                obtain ⟨bw, rfl, hbw, e0⟩ := HW.out.cell hu
                have HA := Lib.hid (adL_next (octK c m k) (R := R) ht)
                have hcl := contr_len (t := t) hR0 hR6
                have HL := Lib.hid hL
                have HK := Lib.hid hbk
                clear hL hbk ht hu hwl
                have hmx : (adL (octK c m k) d R j).length + (contr t R).length ≤ maxLen := by unfold maxLen; omega
                have hby : ((adL (octK c m k) d R j).length + (contr t R).length) * 16 ≤ 140737488355328 := by omega
                clear hal hcl
                have ht012 : t = 0 ∨ t = 1 ∨ t = 2 := by omega
                clear ht3
                rcases ht012 with rfl | rfl | rfl
                · have e1 : wr.cell? ⟨bw, j, none⟩ = some (.iface 84 (.agg #[])) := e0
                  have hmt : ∀ w' : World, (method 205 84 (.agg #[]) "loop.example/zugzwang/impl.of").run Try.prog w' = .ok (98, .agg #[]) w' := fun _ => by kernel_rfl
                  clear e0
                  go_wp2_with (first
                    | (go_at_call 98; refine (leaveNothing_any R _ hR0).mono ?_; rintro e w5 ⟨A5, c5, rfl, hN5, hb5⟩; have HN5 := Lib.hid hN5.is; have hs5 := hb5.size; have HO5 := Lib.hid (HL.out.below hb5); have HW5 := Lib.hid (HW.out.below hb5); have HB5 := Lib.hid (HK.out.trans (hb5.mono hsk)); clear hN5 hb5)
                    | (at_builtin; refine wpList_append_prs _ rfl _ _ 42 rfl w.heap.size 45 j0 Try.underlying42 hj hy0 hy1 hy2 _ _ _ _ _ rfl HO5.out _ _ rfl HN5.out HA.out hmx hby (by omega) ?_; intro B7 d7 w7 hO7 hb7 hk7))
                  have HW7 := Lib.hid (HW5.out.kept (fun g vs hb => hk7 g vs _ (by decide) hb))
                  have hb7 := HB5.out.trans hb7
                  clear hk7 hmx hby
                  go_roundw
                  case rel =>
                    have RR : j + 1 ≤ (wayL d 3).length ∧ Value.int .i64 ((j : Int) + 1) = .int .i64 ((j + 1 : Nat) : Int) ∧ Value.slice B7 (adL (octK c m k) d R (j + 1)).length d7 = .slice B7 (adL (octK c m k) d R (j + 1)).length d7 ∧ OwnP 45 w7 w.heap.size (.slice B7 (adL (octK c m k) d R (j + 1)).length d7) (adL (octK c m k) d R (j + 1)) ∧ Below w.heap.size w w7 ∧ Hid (OwnL 73 w7 wa.heap.size (.slice (some ⟨bw, 0, none⟩) (wayL d 3).length cw) (wayL d 3)) := ⟨by omega, by go_num, rfl, hO7, hb7, HW7⟩
                    first
                      | exact ⟨j + 1, B7, d7, RR⟩
                      | ((repeat apply Exists.intro); exact ⟨⟨j + 1, B7, d7, RR⟩, rfl⟩)
                  case measure => simp [intOf]; omega
                · have e1 : wr.cell? ⟨bw, j, none⟩ = some (.iface 85 (.agg #[])) := e0
                  have hmt : ∀ w' : World, (method 205 85 (.agg #[]) "loop.example/zugzwang/impl.of").run Try.prog w' = .ok (99, .agg #[]) w' := fun _ => by kernel_rfl
                  clear e0
                  go_wp2_with (first
                    | (go_at_call 99; refine (leaveOne_any R _ hR0).mono ?_; rintro e w5 ⟨A5, c5, rfl, hN5, hb5⟩; have HN5 := Lib.hid hN5.is; have hs5 := hb5.size; have HO5 := Lib.hid (HL.out.below hb5); have HW5 := Lib.hid (HW.out.below hb5); have HB5 := Lib.hid (HK.out.trans (hb5.mono hsk)); clear hN5 hb5)
                    | (at_builtin; refine wpList_append_prs _ rfl _ _ 42 rfl w.heap.size 45 j0 Try.underlying42 hj hy0 hy1 hy2 _ _ _ _ _ rfl HO5.out _ _ rfl HN5.out HA.out hmx hby (by omega) ?_; intro B7 d7 w7 hO7 hb7 hk7))
                  have HW7 := Lib.hid (HW5.out.kept (fun g vs hb => hk7 g vs _ (by decide) hb))
                  have hb7 := HB5.out.trans hb7
                  clear hk7 hmx hby
                  go_roundw
                  case rel =>
                    have RR : j + 1 ≤ (wayL d 3).length ∧ Value.int .i64 ((j : Int) + 1) = .int .i64 ((j + 1 : Nat) : Int) ∧ Value.slice B7 (adL (octK c m k) d R (j + 1)).length d7 = .slice B7 (adL (octK c m k) d R (j + 1)).length d7 ∧ OwnP 45 w7 w.heap.size (.slice B7 (adL (octK c m k) d R (j + 1)).length d7) (adL (octK c m k) d R (j + 1)) ∧ Below w.heap.size w w7 ∧ Hid (OwnL 73 w7 wa.heap.size (.slice (some ⟨bw, 0, none⟩) (wayL d 3).length cw) (wayL d 3)) := ⟨by omega, by go_num, rfl, hO7, hb7, HW7⟩
                    first
                      | exact ⟨j + 1, B7, d7, RR⟩
                      | ((repeat apply Exists.intro); exact ⟨⟨j + 1, B7, d7, RR⟩, rfl⟩)
                  case measure => simp [intOf]; omega
                · have e1 : wr.cell? ⟨bw, j, none⟩ = some (.iface 86 (.agg #[])) := e0
                  have hmt : ∀ w' : World, (method 205 86 (.agg #[]) "loop.example/zugzwang/impl.of").run Try.prog w' = .ok (100, .agg #[]) w' := fun _ => by kernel_rfl
                  clear e0
                  go_wp2_with (first
                    | (go_at_call 100; refine (leaveTwo_any R _ hR0 hR6).mono ?_; rintro e w5 ⟨A5, c5, rfl, hN5, hb5⟩; have HN5 := Lib.hid hN5.is; have hs5 := hb5.size; have HO5 := Lib.hid (HL.out.below hb5); have HW5 := Lib.hid (HW.out.below hb5); have HB5 := Lib.hid (HK.out.trans (hb5.mono hsk)); clear hN5 hb5)
                    | (at_builtin; refine wpList_append_prs _ rfl _ _ 42 rfl w.heap.size 45 j0 Try.underlying42 hj hy0 hy1 hy2 _ _ _ _ _ rfl HO5.out _ _ rfl HN5.out HA.out hmx hby (by omega) ?_; intro B7 d7 w7 hO7 hb7 hk7))
                  have HW7 := Lib.hid (HW5.out.kept (fun g vs hb => hk7 g vs _ (by decide) hb))
                  have hb7 := HB5.out.trans hb7
                  clear hk7 hmx hby
                  go_roundw
                  case rel =>
                    have RR : j + 1 ≤ (wayL d 3).length ∧ Value.int .i64 ((j : Int) + 1) = .int .i64 ((j + 1 : Nat) : Int) ∧ Value.slice B7 (adL (octK c m k) d R (j + 1)).length d7 = .slice B7 (adL (octK c m k) d R (j + 1)).length d7 ∧ OwnP 45 w7 w.heap.size (.slice B7 (adL (octK c m k) d R (j + 1)).length d7) (adL (octK c m k) d R (j + 1)) ∧ Below w.heap.size w w7 ∧ Hid (OwnL 73 w7 wa.heap.size (.slice (some ⟨bw, 0, none⟩) (wayL d 3).length cw) (wayL d 3)) := ⟨by omega, by go_num, rfl, hO7, hb7, HW7⟩
                    first
                      | exact ⟨j + 1, B7, d7, RR⟩
                      | ((repeat apply Exists.intro); exact ⟨⟨j + 1, B7, d7, RR⟩, rfl⟩)
                  case measure => simp [intOf]; omega
              · obtain rfl : j = (wayL d 3).length := by omega
                have HE3 := Lib.hid (show adL (octK c m k) d R (wayL d 3).length = octK c m (k + 1) by rw [hwl]; exact HE.out)
                rw [HE3.out] at hL
                rw [show (adL (octK c m k) d R (wayL d 3).length).length = (octK c m (k + 1)).length by rw [HE3.out]]
                clear hal hwl
                go_wp2_with fail
                go_roundw
                case rel =>
                  have RR : k + 1 ≤ c.length ∧ Value.int .i64 ((k : Int) + 1) = .int .i64 ((k + 1 : Nat) : Int) ∧ Value.slice B2 (octK c m (k + 1)).length d2 = .slice B2 (octK c m (k + 1)).length d2 ∧ OwnP 45 wr w.heap.size (.slice B2 (octK c m (k + 1)).length d2) (octK c m (k + 1)) ∧ Below w.heap.size w wr := ⟨by omega, by go_num, rfl, hL, hbk⟩
                  first
                    | exact ⟨k + 1, B2, d2, RR⟩
                    | ((repeat apply Exists.intro); exact ⟨⟨k + 1, B2, d2, RR⟩, rfl⟩)
                case measure => simp [intOf]; omega
          · obtain rfl : k = c.length := by omega
            go_wp2_with fail
            go_ret
            rw [HN.out]
            exact pairNew_of hO hbe
end Go.Proofs.Ytjanalljaacnoaa.Ko
