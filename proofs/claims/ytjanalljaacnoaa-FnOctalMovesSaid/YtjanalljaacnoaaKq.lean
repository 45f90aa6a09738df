/- OctalAll: values; the model's. -/
import Derived.Test.YtjanalljaacnoaaKl
import Derived.Laws.AppendOwn
import Derived.Deep.RegionHeld3
namespace Go.Proofs.Ytjanalljaacnoaa.Ko
open Go.ChangeShapes Go.WideShapes Go.ChangeAt Go.RowKit Base Sq In
set_option linter.unusedVariables false
set_option maxRecDepth 20000
attribute [local irreducible] wpQuiet

/-- an append to a list of the call's own as a step of a region -/
theorem step_append_own {P : Program} {w : World} {ops : Array Oper} {o : Oper} {a : Act} {K : Act → World → Prop} {Q : Exit → Act → World → Prop} {E : Prop} (hgd : o.guard = none) (s x : Operand) (t : TypeId)
    (ho : o.op = .call { callee := .builtin .append, args := #[s, x], argTypes := #[t, t] })
    (base : Nat) (e : TypeId) (i : TypeInfo) (z : Value) (size bytes : Nat) (ht : P.underlying t = some (.slice e)) (hi : P.info? e = some i) (hz : i.zero = some z)
    (hsize : i.size = size) (hby : i.bytes = bytes) (hzs : z.cells.size = size) (hsz : 0 < size)
    (v : Value) (n : Nat) (xs : List Value) (hs : a.eval s = v) (hown : w.ownsRow base e size v n xs)
    (ad : Addr) (m c : Nat) (news : List Value) (hx : a.eval x = .slice (some ad) m c) (hl : news.length = m * size) (hnews : ∀ j u, news[j]? = some u → w.cell? (ad.add j) = some u) (h1 : ∀ u ∈ news, u.oneCell' = true)
    (h63 : n + m ≤ maxLen) (hbytes : (n + m) * bytes ≤ 140737488355328) (hbase : base ≤ w.heap.size)
    (h : ∀ v' w', w'.ownsRow base e size v' (n + m) (xs ++ news) → w.grownBy w' v.ownBlock → (v' = .slice none 0 0 ↔ v = .slice none 0 0 ∧ m = 0) → K (a.put o.dst v') w') :
    if Region.wanted o (yielded ops a.tmps) = true then Oper.wp P o a w K Q else E := by
  have hw : Region.wanted o (yielded ops a.tmps) = true := by simp [Region.wanted, hgd]
  rw [if_pos hw]
  exact wp_append_own w s x t ho base e i z size bytes ht hi hz hsize hby hzs hsz v n xs hs hown ad m c news hx hl hnews h1 h63 hbytes hbase h
/-- the values of the first i of what may be left -/
def kidK (g : List Int) (ms : List Pr) : Nat → List Int
  | 0 => []
  | i + 1 => kidK g ms i ++ [xorV (iAt g (prAt ms i).1.toNat) (iAt g (prAt ms i).2.toNat)]
theorem kidK_len (g : List Int) (ms : List Pr) (i : Nat) : (kidK g ms i).length = i := by
  induction i with
  | zero => rfl
  | succ i ih => unfold kidK; rw [List.length_append, ih]; rfl
theorem kidK_take (g : List Int) (ms : List Pr) {i : Nat} (h : i ≤ ms.length) : kidK g ms i = octW g (ms.take i) := by
  induction i with
  | zero => simp [kidK, octW]
  | succ i ih =>
    have e : prAt ms i = ms[i] := by unfold prAt; simp [List.getD_eq_getElem?_getD, show i < ms.length by omega]
    unfold kidK
    rw [ih (by omega), List.take_succ_eq_append_getElem (by omega), e]
    unfold octW
    rw [List.map_append]
    rfl
theorem kidK_all (g : List Int) (ms : List Pr) : kidK g ms ms.length = octW g ms := by rw [kidK_take g ms (Nat.le_refl _), List.take_length]
theorem splitK_mem {R : Int} {k : Nat} {p : Pr} (h : p ∈ splitK R k) : ∃ j : Nat, j < k ∧ p = ((j : Int) + 1, R - ((j : Int) + 1)) := by
  induction k with
  | zero => simp [splitK] at h
  | succ k ih =>
    unfold splitK at h
    rcases List.mem_append.1 h with h | h
    · obtain ⟨j, hj, hp⟩ := ih h; exact ⟨j, by omega, hp⟩
    · exact ⟨k, by omega, by simpa using h⟩
theorem IsPr.kept {T : TypeId} {w w' : World} {B : Nat} {A : Option Addr} {l : List Pr} (h : IsPr T w B A l) (hk : ∀ g vs, Blk w g vs T → Blk w' g vs T) : IsPr T w' B A l := fun hn => by
  obtain ⟨b, cs, rfl, h1, h2, h3, h4⟩ := h hn
  exact ⟨b, cs, rfl, h1, h2, hk _ _ h3, h4⟩
/-- behind an append of one number: blocks of other types stay -/
theorem after_other {w w' : World} {base : Nat} {v : Value} {l : List Int} {x : Int} (hO : In.Own w base v l) (hg : (w.alloc (.cells #[.int .i64 x] 3)).grownBy w' v.ownBlock) {g : Nat} {vs : Array Value} {T : TypeId} (hT : T ≠ 3) (hb : Blk w g vs T) : Blk w' g vs T :=
  blk_grown5 (hb.alloc _) hg (own_apart hO hb hT)
/-- both heaps are smaller than n -/
def PairIn (n : Nat) (p : Pr) : Prop := (0 ≤ p.1 ∧ p.1 < n) ∧ 0 ≤ p.2 ∧ p.2 < n
theorem octAt_mem {c : List Int} {n k : Nat} (hk : k < n) {p : Pr} (h : p ∈ octAt c n k) : PairIn n p := by
  unfold octAt at h
  rcases List.mem_append.1 h with h | h
  · rcases List.mem_append.1 h with h | h
    · split at h
      · simp at h; subst h
        refine ⟨⟨?_, ?_⟩, ?_, ?_⟩
        · show (0 : Int) ≤ 0; omega
        · show (0 : Int) < n; omega
        · show (0 : Int) ≤ 0; omega
        · show (0 : Int) < n; omega
      · simp at h
    · split at h
      · rename_i h2
        simp at h; subst h
        refine ⟨⟨by show (0 : Int) ≤ 0; omega, by show (0 : Int) < n; omega⟩, ?_, ?_⟩
        · show 0 ≤ (n : Int) - k - 1; omega
        · show (n : Int) - k - 1 < n; omega
      · simp at h
  · split at h
    · obtain ⟨j, hj, rfl⟩ := splitK_mem h
      refine ⟨⟨?_, ?_⟩, ?_, ?_⟩
      · show (0 : Int) ≤ (j : Int) + 1; omega
      · show (j : Int) + 1 < n; omega
      · show 0 ≤ (n : Int) - k - 1 - ((j : Int) + 1); omega
      · show (n : Int) - k - 1 - ((j : Int) + 1) < n; omega
    · simp at h
theorem octK_mem {c : List Int} {n k : Nat} (hk : k ≤ n) {p : Pr} (h : p ∈ octK c n k) : PairIn n p := by
  induction k with
  | zero => simp [octK] at h
  | succ k ih =>
    unfold octK at h
    rcases List.mem_append.1 h with h | h
    · exact ih (by omega) h
    · exact octAt_mem (by omega) h
theorem octM_in {c : List Int} {n i : Nat} (h : i < (octM c n).length) : PairIn n (prAt (octM c n) i) := by
  have hm : prAt (octM c n) i ∈ octM c n := by unfold prAt; simp [List.getD_eq_getElem?_getD, h]
  rw [octM_lim] at hm
  rw [octM_lim]
  rw [octM_lim] at h
  exact octK_mem (Nat.min_le_right _ _) hm
theorem octM_few {c : List Int} {n : Nat} (hc : octB c = true) (hn : n ≤ 60) : (octM c n).length ≤ 128 := by
  rw [octM_lim]
  have := (octB_len hc).2
  exact octK_few hn (by omega)
theorem gruO_bd {c : List Int} (hc : octB c = true) {n i : Nat} (hn : n ≤ 61) (hi : i < n) : 0 ≤ iAt (gruO c n) i ∧ iAt (gruO c n) i < 2 ^ 8 := by
  induction n with
  | zero => omega
  | succ n ih =>
    rw [show gruO c (n + 1) = gruO c n ++ [mexV (octW (gruO c n) (octM c n))] from rfl]
    rcases Nat.lt_succ_iff_lt_or_eq.1 hi with h | rfl
    · rw [iAt_append_left (by rw [gruO_len]; exact h)]; exact ih (by omega) h
    · have e := iAt_snoc (gruO c i) (mexV (octW (gruO c i) (octM c i)))
      rw [gruO_len] at e
      rw [e]
      have h1 := mexV_le (octW (gruO c i) (octM c i))
      have h2 := octM_few hc (n := i) (by omega)
      have h3 : (octW (gruO c i) (octM c i)).length = (octM c i).length := by unfold octW; rw [List.length_map]
      omega
theorem octalV_no {z : List Int} {q : Int} (h : ¬ (octB z = true ∧ 0 ≤ q ∧ q ≤ 60)) : octalV z q = [] := if_neg h
theorem octalV_yes {z : List Int} {m : Nat} (h : octB z = true) (hm : m ≤ 60) : octalV z m = gruO z (m + 1) := by
  unfold octalV; rw [if_pos ⟨h, by omega, by omega⟩, Int.toNat_natCast]
set_option maxHeartbeats 4000000 in
theorem l19All_any (V : Option Addr) (cv : Nat) (s : List Int) (m : Nat) (w : World) (hV : IsInts w w.heap.size V s) (hs : octB s = true) (hm : m ≤ 60) :
    Calls Try.prog 68 #[.slice V s.length cv, .int .i64 (m : Int)] w fun e w' => LenNew w w' (gruO s (m + 1)) e := by
  obtain ⟨i0, hi, hz0, hz1, hz2⟩ := info_parts infoInt
  have HS := Lib.hid hs
  have hb0 : Below w.heap.size w (w.alloc (.cells #[] 3)) := (by repeat (first | exact Below.refl _ _ | assumption | (refine Below.alloc ?_ (by first | omega | (simp; done) | (simp; omega)) _) | (refine Below.setCell ?_ (by first | omega | (simp; done) | (simp; omega)) _) | refine Below.drew ?_))
  have hO0 := Own.empty (base := w.heap.size) (Nat.le_refl _) (Blk.new w #[] 3)
  clear hs
  go_enter Try.func68, Try.ntmps68
  go_wp2_with fail
  generalize hW0 : w.alloc _ = W0 at *
  clear hW0
  go_loopw [5, 6] (fun v i wr => ∃ (n : Nat) (A : Option Addr) (c : Nat), n ≤ m + 1 ∧ i = .int .i64 n ∧ v = .slice A (gruO s n).length c ∧ In.Own wr w.heap.size (.slice A (gruO s n).length c) (gruO s n) ∧ Below w.heap.size w wr) (fun _ i _ => m + 1 - (intOf i).toNat)
  case atStart => exact ⟨0, _, _, by omega, rfl, rfl, hO0, hb0⟩
  case round =>
    clear hO0 hb0
    obtain ⟨n, A, c, hn, rfl, rfl, hO, hbe⟩ := hrel
    have HGL := Lib.hid (gruO_len s n)
    have hgl6 : (gruO s n).length ≤ 61 := by have := HGL.out; omega
    by_cases hlt : n ≤ m
    · have hlt' : (n : Int) ≤ (m : Int) := by omega
      have HB := Lib.hid hbe
      have HO := Lib.hid hO
      have hsz := hbe.size
      have hO1 := Own.empty (base := wr.heap.size) (Nat.le_refl _) (Blk.new wr #[] 3)
      have hb1 := below_of wr (.cells #[] 3)
      have hfew := octM_few HS.out (n := n) (by omega)
      have HV1 := Lib.hid (((hV.below hbe).below (hb1.mono hsz)).more (Nat.le_trans hsz hb1.size))
      clear hbe hO
      go_wp2_with fail
      generalize hW1 : wr.alloc _ = W1 at *
      clear hW1
      refine (l19Moves_any _ _ _ n _ HV1.out HS.out (by omega)).mono ?_
      rintro e w4 ⟨Am, cm, rfl, hM, hb4⟩
      have hO4 := hO1.below hb4
      have hs1 := hb1.size
      have hb14 := hb1.trans (hb4.mono hs1)
      have HM4 := Lib.hid hM.is
      have hs4 := hb4.size
      clear hO1 hb1 hb4 hM HV1
      obtain ⟨ms, hms⟩ : ∃ ms, ms = octM s n := ⟨_, rfl⟩
      have HMS := Lib.hid hms
      rw [← hms] at HM4 hfew ⊢
      have HPI := Lib.hid (show ∀ i, i < ms.length → PairIn n (prAt ms i) by rw [hms]; exact fun i h => octM_in h)
      clear hms
      go_wp2_with fail
      generalize hwa : wr = wa at *
      clear hwa
      go_loopw [7, 9] (fun v i wr => ∃ (k : Nat) (B : Option Addr) (d : Nat), k ≤ ms.length ∧ i = .int .i64 k ∧ v = .slice B (kidK (gruO s n) ms k).length d ∧ In.Own wr wa.heap.size (.slice B (kidK (gruO s n) ms k).length d) (kidK (gruO s n) ms k) ∧ Below wa.heap.size wa wr ∧ Hid (IsPr 45 wr w4.heap.size Am ms) ∧ w4.heap.size ≤ wr.heap.size) (fun _ i _ => ms.length - (intOf i).toNat)
      case atStart => exact ⟨0, _, _, by omega, rfl, rfl, hO4, hb14, HM4, Nat.le_refl _⟩
      case round =>
        clear hO4 hb14 HM4
        obtain ⟨k, B, d, hk, rfl, rfl, hL, hbk, HM, hs4k⟩ := hrel
        have hol := kidK_len (gruO s n) ms k
        have hol2 : (kidK (gruO s n) ms k).length ≤ 128 := by omega
        clear hol
        have hszk := hbk.size
        by_cases hlk : k < ms.length
        · have hlkI : (k : Int) < (ms.length : Int) := by omega
          obtain ⟨x, y, hxy⟩ : ∃ x y, prAt ms k = (x, y) := ⟨_, _, rfl⟩
          have hin := HPI.out k hlk
          rw [hxy] at hin
          obtain ⟨⟨x0, x1⟩, y0, y1⟩ : (0 ≤ x ∧ x < n) ∧ 0 ≤ y ∧ y < n := hin
          obtain ⟨lb, hlbA, -, -⟩ := HM.out.at hlk
          subst hlbA
          obtain ⟨hlb, c0, c1⟩ := HM.out.atb hlk hxy
          obtain ⟨A', c', hv', hI⟩ := HO.out.is
          simp only [Value.slice.injEq] at hv'
          obtain ⟨rfl, _, rfl⟩ := hv'
          have hI' := hI.below hbk
          obtain ⟨g, rfl⟩ := hI'.some (by have := HGL.out; omega)
          obtain ⟨hgB, g1⟩ := hI'.at (i := x.toNat) (by have := HGL.out; omega)
          obtain ⟨_, g2⟩ := hI'.at (i := y.toNat) (by have := HGL.out; omega)
          have q1 : x < ((gruO s n).length : Int) := by have := HGL.out; omega
          have q2 : y < ((gruO s n).length : Int) := by have := HGL.out; omega
          have b1 := gruO_bd HS.out (n := n) (i := x.toNat) (by omega) (by omega)
          have b2 := gruO_bd HS.out (n := n) (i := y.toNat) (by omega) (by omega)
          obtain ⟨X, hX⟩ : ∃ X, X = xorV (iAt (gruO s n) x.toNat) (iAt (gruO s n) y.toNat) := ⟨_, rfl⟩
          have hx : bits .xor .i64 (iAt (gruO s n) x.toNat) (iAt (gruO s n) y.toNat) = X := by rw [hX]; exact bits_xor (by omega) (by omega)
          have HE := Lib.hid (show kidK (gruO s n) ms (k + 1) = kidK (gruO s n) ms k ++ [X] by rw [hX, show (kidK (gruO s n) ms (k + 1)) = kidK (gruO s n) ms k ++ [xorV (iAt (gruO s n) (prAt ms k).1.toNat) (iAt (gruO s n) (prAt ms k).2.toNat)] from rfl, hxy])
          have hmax : (kidK (gruO s n) ms k).length + 1 ≤ maxLen := by unfold maxLen; omega
          have hlb2 : lb < wr.heap.size := by omega
          have hgB2 : g < wr.heap.size := by omega
          have HL := Lib.hid hL
          have HK := Lib.hid hbk
          have HCS := Lib.hid (show ∀ w' : World, Below wr.heap.size wr w' → (w'.cell? ⟨lb, k * 2, none⟩ = some (.int .i64 x) ∧ w'.cell? ⟨lb, k * 2 + 1, none⟩ = some (.int .i64 y) ∧ w'.cell? ⟨g, x.toNat, none⟩ = some (.int .i64 (iAt (gruO s n) x.toNat)) ∧ w'.cell? ⟨g, y.toNat, none⟩ = some (.int .i64 (iAt (gruO s n) y.toNat))) from fun w' hb => ⟨(hb.cell (p := ⟨lb, k * 2, none⟩) hlb2).trans c0, (hb.cell (p := ⟨lb, k * 2 + 1, none⟩) hlb2).trans c1, (hb.cell (p := ⟨g, x.toNat, none⟩) hgB2).trans g1, (hb.cell (p := ⟨g, y.toNat, none⟩) hgB2).trans g2⟩)
          have HXY := Lib.hid hxy
          have HI0 := Lib.hid hI
          have hix : x.toNat < (gruO s n).length := by have := HGL.out; omega
          have hiy : y.toNat < (gruO s n).length := by have := HGL.out; omega
          clear hX hxy b1 b2 hL hbk hI hI'
          go_wp2_with fail
          have hw : Below wr.heap.size wr wr.drew := (Below.refl _ _).drew
          go_region_held3 (fun w' => w'.cell? ⟨lb, k * 2, none⟩ = some (.int .i64 x) ∧ w'.cell? ⟨lb, k * 2 + 1, none⟩ = some (.int .i64 y) ∧ w'.cell? ⟨g, x.toNat, none⟩ = some (.int .i64 (iAt (gruO s n) x.toNat)) ∧ w'.cell? ⟨g, y.toNat, none⟩ = some (.int .i64 (iAt (gruO s n) y.toNat)))
            (first | exact HCS.out _ hw | exact hcell7 | exact HCS.out _ (hw.alloc hw.size _))
            (first
              | (refine step_append_own rfl _ _ _ rfl wa.heap.size 3 i0 (.int .i64 0) 1 8 Try.underlying23 hi hz0 hz1 hz2 rfl (by decide) _ _ _ rfl (show World.ownsRow (wr.drew.alloc (.cells #[.int .i64 X] 3)) wa.heap.size 3 1 (.slice B (kidK (gruO s n) ms k).length d) (kidK (gruO s n) ms k).length (nums (kidK (gruO s n) ms k)) from World.ownsRow.alloc HL.out _) ⟨wr.heap.size, 0, none⟩ 1 1 [.int .i64 X] rfl rfl (cell_one_new wr.drew _ _) (fun u hu => by simp at hu; subst hu; rfl) hmax (by omega) (by simp; omega) ?_; intro v' w7 hown' hgrow' hnil'; have hoth : ∀ g vs, Blk wr g vs 45 → Blk w7 g vs 45 := fun g vs hb => after_other (w := wr.drew) (x := X) HL.out hgrow' (by decide) hb; obtain ⟨B7, d7, rfl, hO7, hb7⟩ := app_after (w := wr.drew) HL.out HE.out hown' hgrow' hszk; have hb77 := HK.out.trans (Below.trans ((Below.refl _ wr).drew.mono hszk) hb7); have hcell7 : w7.cell? ⟨lb, k * 2, none⟩ = some (.int .i64 x) ∧ w7.cell? ⟨lb, k * 2 + 1, none⟩ = some (.int .i64 y) ∧ w7.cell? ⟨g, x.toNat, none⟩ = some (.int .i64 (iAt (gruO s n) x.toNat)) ∧ w7.cell? ⟨g, y.toNat, none⟩ = some (.int .i64 (iAt (gruO s n) y.toNat)) := ⟨((HM.out.kept hoth).atb hlk HXY.out).2.1, ((HM.out.kept hoth).atb hlk HXY.out).2.2, ((HI0.out.below hb77).at hix).2, ((HI0.out.below hb77).at hiy).2⟩; clear hown' hgrow' hnil'))
          all_goals
            have HM7 := Lib.hid (HM.out.kept hoth)
            have hs7 : w4.heap.size ≤ w7.heap.size := Nat.le_trans hs4k hb7.size
            have hb7 := hb77
            clear hoth hcell7
            go_wp2_with fail
            go_roundw
            case rel =>
              have R : k + 1 ≤ ms.length ∧ Value.int .i64 ((k : Int) + 1) = .int .i64 ((k + 1 : Nat) : Int) ∧ Value.slice B7 (kidK (gruO s n) ms (k + 1)).length d7 = .slice B7 (kidK (gruO s n) ms (k + 1)).length d7 ∧ In.Own w7 wa.heap.size (.slice B7 (kidK (gruO s n) ms (k + 1)).length d7) (kidK (gruO s n) ms (k + 1)) ∧ Below wa.heap.size wa w7 ∧ Hid (IsPr 45 w7 w4.heap.size (some ⟨lb, 0, none⟩) ms) ∧ w4.heap.size ≤ w7.heap.size := ⟨by omega, by go_num, rfl, hO7, hb7, HM7, hs7⟩
              first
                | exact ⟨k + 1, B7, d7, R⟩
                | ((repeat apply Exists.intro); exact ⟨⟨k + 1, B7, d7, R⟩, rfl⟩)
            case measure => simp [intOf]; omega
        · obtain rfl : k = ms.length := by omega
          have HE := Lib.hid (show gruO s (n + 1) = gruO s n ++ [mexV (kidK (gruO s n) ms ms.length)] by rw [kidK_all, HMS.out]; rfl)
          have HOk := Lib.hid (HO.out.below hbk)
          have hmax : (gruO s n).length + 1 ≤ maxLen := by unfold maxLen; omega
          obtain ⟨B', d', hv', hI⟩ := hL.is
          simp only [Value.slice.injEq] at hv'
          obtain ⟨rfl, _, rfl⟩ := hv'
          have HK := Lib.hid hbk
          have HI := Lib.hid hI
          clear hL hbk hI
          go_wp2_with (first | (go_at_call 80; refine (mex_any _ _ _ _ HI.out (by omega)).mono ?_; rintro e w' ⟨rfl, rfl⟩) | (at_builtin; refine wpList_append_own _ rfl _ _ 23 rfl (w.heap.size) 3 i0 (.int .i64 0) 1 8 Try.underlying23 hi hz0 hz1 hz2 rfl (by decide) _ _ _ rfl (World.ownsRow.alloc HOk.out _) ⟨wr.heap.size, 0, none⟩ 1 1 [.int .i64 (mexV (kidK (gruO s n) ms ms.length))] rfl rfl (cell_one_new _ _ _) (fun u hu => by simp at hu; subst hu; rfl) hmax (by omega) (by simp; omega) ?_; intro v' w7 hown' hgrow' hnil'; obtain ⟨B7, d7, rfl, hO7, hb7⟩ := app_after HOk.out HE.out hown' hgrow' (by omega); clear hown' hgrow' hnil'))
          have hbw := (HB.out.trans (HK.out.mono hsz)).trans hb7
          clear hol2
          go_roundw
          case rel =>
            have R : n + 1 ≤ m + 1 ∧ Value.int .i64 ((n : Int) + 1) = .int .i64 ((n + 1 : Nat) : Int) ∧ Value.slice B7 (gruO s (n + 1)).length d7 = .slice B7 (gruO s (n + 1)).length d7 ∧ In.Own w7 w.heap.size (.slice B7 (gruO s (n + 1)).length d7) (gruO s (n + 1)) ∧ Below w.heap.size w w7 := ⟨by omega, by go_num, rfl, hO7, hbw⟩
            first
              | exact ⟨n + 1, B7, d7, R⟩
              | ((repeat apply Exists.intro); exact ⟨⟨n + 1, B7, d7, R⟩, rfl⟩)
          case measure => simp [intOf]; omega
    · obtain rfl : n = m + 1 := by omega
      have hd : decide (((m + 1 : Nat) : Int) ≤ (m : Int)) = false := decide_eq_false (by omega)
      go_wp2_with fail
      go_ret
      exact lenNew_of hO hbe
end Go.Proofs.Ytjanalljaacnoaa.Ko
