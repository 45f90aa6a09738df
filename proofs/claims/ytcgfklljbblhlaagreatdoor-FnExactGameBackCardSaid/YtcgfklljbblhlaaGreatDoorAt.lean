/- What a man attacks: the iterator. -/
import Derived.Test.YtcgfklljbblhlaaGreatDoorMa
import Derived.Test.YtcgfklljbblhlaaGreatDoorRf
import Derived.Shelf.Abstract
import Derived.OwnWalkIn
import Derived.TacticsInMore
import Derived.LoopNIn
import Derived.LoopIn
namespace Go.Proofs.YtcgfklljbblhlaaGreatDoor.Ko
open Go.ChangeShapes Go.WideShapes Go.ChangeAt Go.RowKit Base Sq Rf
set_option linter.unusedVariables false
set_option maxRecDepth 20000
attribute [local go_sem] Oper.semAt_some
attribute [local irreducible] wpQuiet

theorem nextV_in {s a dx dy : Int} (hs : s = 2 ∨ s = 3 ∨ s = 4) (ha : 0 ≤ a ∧ a < s * s) (h : 0 ≤ a % s + dx ∧ a % s + dx < s ∧ 0 ≤ a / s + dy ∧ a / s + dy < s) :
    nextV s a dx dy = a % s + dx + s * (a / s + dy) ∧ (0 ≤ nextV s a dx dy ∧ nextV s a dx dy < s * s) ∧ nextV s a dx dy % s = a % s + dx ∧ nextV s a dx dy / s = a / s + dy := by
  have e : nextV s a dx dy = a % s + dx + s * (a / s + dy) := numV_in h
  rw [e]
  generalize a % s + dx = x at *
  generalize a / s + dy = y at *
  rcases hs with rfl | rfl | rfl <;> omega
theorem nextV_out {s a dx dy : Int} (h : ¬ (0 ≤ a % s + dx ∧ a % s + dx < s ∧ 0 ≤ a / s + dy ∧ a / s + dy < s)) : nextV s a dx dy = -1 := numV_out h
theorem onB_next {s a dx dy : Int} : onB s (a % s + dx) (a / s + dy) = true ↔ (0 ≤ a % s + dx ∧ a % s + dx < s ∧ 0 ≤ a / s + dy ∧ a / s + dy < s) := decide_eq_true_iff

/-- what the closure of attacks reads -/
structure AttAt (W : World) (n₀ br bm bn : Nat) (side : Int) (A : Option Addr) (c : Nat) (ks : List Kd) (M : Option Addr) (cm : Nat) (l : List St) (m : St) : Prop where
  r : Blk W br #[.int .i64 side, .slice A ks.length c] 40
  m : Blk W bm #[.int .i64 m.dx, .int .i64 m.dy, .int .i64 m.far] 105
  n : Blk W bn #[.slice M l.length cm] 33
  ks : IsKinds W n₀ A ks
  men : IsSteps W n₀ M l
  low : n₀ ≤ W.heap.size
theorem AttAt.keep {W W' : World} {n₀ br bm bn : Nat} {side : Int} {A : Option Addr} {c : Nat} {ks : List Kd} {M : Option Addr} {cm : Nat} {l : List St} {m : St} (h : AttAt W n₀ br bm bn side A c ks M cm l m)
    (hb : Below n₀ W W') (hs : ∀ b, (b = br ∨ b = bm ∨ b = bn) → W'.heap[b]? = W.heap[b]?) : AttAt W' n₀ br bm bn side A c ks M cm l m :=
  ⟨(hs br (.inl rfl)).trans h.r, (hs bm (.inr (.inl rfl))).trans h.m, (hs bn (.inr (.inr rfl))).trans h.n, h.ks.below hb, h.men.below hb, Nat.le_trans h.low hb.size⟩
theorem AttAt.below {W W' : World} {n₀ br bm bn B : Nat} {side : Int} {A : Option Addr} {c : Nat} {ks : List Kd} {M : Option Addr} {cm : Nat} {l : List St} {m : St} (h : AttAt W n₀ br bm bn side A c ks M cm l m)
    (hb : Below B W W') (h0 : n₀ ≤ B) (h1 : br < B) (h2 : bm < B) (h3 : bn < B) : AttAt W' n₀ br bm bn side A c ks M cm l m :=
  h.keep (hb.mono h0) (fun b hb' => hb.block b (by rcases hb' with rfl | rfl | rfl <;> assumption))
/-- the blocks that a round must keep -/
def AttK (n₀ br bm bn : Nat) (b : Nat) : Prop := b < n₀ ∨ b = br ∨ b = bm ∨ b = bn
theorem AttAt.kept {W W' : World} {n₀ br bm bn B : Nat} {side : Int} {A : Option Addr} {c : Nat} {ks : List Kd} {M : Option Addr} {cm : Nat} {l : List St} {m : St} (h : AttAt W n₀ br bm bn side A c ks M cm l m)
    (hk : Kept (AttK n₀ br bm bn) B W W') : AttAt W' n₀ br bm bn side A c ks M cm l m :=
  h.keep (hk.toBelow h.low (fun b hb => .inl hb)) (fun b hb => hk.same b (.inl (.inr hb)) (by
    rcases hb with rfl | rfl | rfl
    · exact h.r.lt
    · exact h.m.lt
    · exact h.n.lt))
theorem blk_kept {K : Nat → Prop} {B : Nat} {W W' : World} {b : Nat} {vs : Array Value} {T : TypeId} (h : Blk W b vs T) (hk : Kept K B W W') (hb : B ≤ b) : Blk W' b vs T :=
  (hk.same b (.inr hb) h.lt).trans h

theorem attL_pre {s : Int} {l steps : List St} {a : Int} {k n : Nat} (h : k ≤ n) : attL s l steps a k <+: attL s l steps a n := by
  induction n with
  | zero => have : k = 0 := by omega
            subst this; exact List.prefix_refl _
  | succ n ih =>
    by_cases h2 : k = n + 1
    · subst h2; exact List.prefix_refl _
    · exact (ih (by omega)).trans (List.prefix_append _ _)
theorem number_next (s a dx dy : Int) (w : World) (hs : s = 2 ∨ s = 3 ∨ s = 4) :
    Calls Tryz.prog 126 #[.agg #[.int .i64 s, .int .i64 (a % s + dx), .int .i64 (a / s + dy)]] w fun e w' => e = .returned (.int .i64 (nextV s a dx dy)) ∧ Below w.heap.size w w' := number_any _ _ _ _ hs

set_option maxHeartbeats 4000000 in
set_option maxRecDepth 100000 in
theorem att1_in (n : Nat) (hn : 1 ≤ n) (L n₀ br bm bn : Nat) (side : Int) (A : Option Addr) (c : Nat) (ks : List Kd) (M : Option Addr) (cm : Nat) (l : List St) (m : St)
    (hok : rulesOk side ks = true) (hm : 0 ≤ m.dx ∧ m.dx < ks.length) (hq : 0 ≤ m.far ∧ m.far < side * side) (hl : l.length ≤ 1048576)
    (J Jx : List Int → World → Prop) (W : World) (hJ : Firm W.heap.size J)
    (hY : ∀ pre x W1, J pre W1 → pre.length < (attL side l (kOf ks m).steps m.far (kOf ks m).steps.length).length → pre ++ [x] <+: attL side l (kOf ks m).steps m.far (kOf ks m).steps.length → YieldAt Fence.wide (n - 1) Tryz.prog L #[.int .i64 x] W1 fun e W' =>
      (e = .returned (.bool true) ∧ J (pre ++ [x]) W' ∧ Kept (AttK n₀ br bm bn) W.heap.size W1 W') ∨ (e = .returned (.bool false) ∧ Jx (pre ++ [x]) W'))
    (hA : AttAt W n₀ br bm bn side A c ks M cm l m) (h0 : J [] W) :
    CallsIn Fence.wide n Tryz.prog 122 #[.func (.yield L) #[] #[], .pointer (some ⟨br, 0, none⟩), .pointer (some ⟨bm, 0, none⟩), .pointer (some ⟨bn, 0, none⟩)] W fun e W' => (∃ v, e = .returned v) ∧
      ((∃ ys, ys = attL side l (kOf ks m).steps m.far (kOf ks m).steps.length ∧ J ys W') ∨ (∃ pre, pre <+: attL side l (kOf ks m).steps m.far (kOf ks m).steps.length ∧ Jx pre W')) := by
  obtain ⟨hs, hk1, hk4, _, hst⟩ := rulesOk_facts hok
  obtain ⟨hm1, hm2⟩ := hm
  obtain ⟨b, off, rfl, hB, hc⟩ := hA.ks (by omega)
  obtain ⟨S, cc, c0, c1, c2, hS⟩ := hc m.dx.toNat (by omega)
  obtain ⟨hlen, hstep⟩ := hst m.dx.toNat (by omega)
  change IsSteps W n₀ S (kOf ks m).steps at hS
  change (kOf ks m).steps.length ≤ 8 at hlen
  change W.cell? _ = some (.slice S (kOf ks m).steps.length cc) at c2
  have hstep' : ∀ i, i < (kOf ks m).steps.length → (-2 ≤ (stAt (kOf ks m).steps i).dx ∧ (stAt (kOf ks m).steps i).dx ≤ 2) ∧ (-2 ≤ (stAt (kOf ks m).steps i).dy ∧ (stAt (kOf ks m).steps i).dy ≤ 2) ∧ 1 ≤ (stAt (kOf ks m).steps i).far ∧ (stAt (kOf ks m).steps i).far ≤ 3 := hstep
  have HST := Lib.hid hstep'
  have HHS := Lib.hid hs
  have hq15 : m.far ≤ 15 := by rcases hs with rfl | rfl | rfl <;> omega
  clear hc hst hok hstep hstep' c0 c1
  generalize hsteps : (kOf ks m).steps = st at *
  clear hsteps
  have HJ := Lib.hid hJ
  have HYY := Lib.hid hY
  clear hJ hY
  obtain ⟨⟨r0, r1⟩, _⟩ := hA.r.at2
  obtain ⟨⟨m0, m1, m2⟩, _⟩ := hA.m.at3
  obtain ⟨n0, _⟩ := hA.n.at1
  refine callsIn_of_wp Tryz.func122 rfl trivial ?_ rfl
  simp only [Tryz.ntmps122, List.size_toArray, List.length_cons, List.length_nil, Nat.reduceAdd, Nat.reduceSub, Array.replicate_succ, Array.replicate_zero, List.push_toArray, List.append_toArray, List.nil_append, List.cons_append]
  gi_wp2
  have lr := hA.r.lt
  have lm := hA.m.lt
  have ln := hA.n.lt
  have lo := hA.low
  clear r0 r1 m0 m1 m2 n0 c2
  gi_loopw [16] (fun i wr => ∃ k : Nat, k ≤ st.length ∧ i = .int .i64 k ∧ J (attL side l st m.far k) wr ∧ AttAt wr n₀ br bm bn side (some ⟨b, off, none⟩) c ks M cm l m ∧ IsSteps wr n₀ S st ∧ W.heap.size ≤ wr.heap.size) (fun i _ => st.length - (intOf i).toNat)
  case atStart => exact ⟨0, by omega, rfl, h0, hA, hS, Nat.le_refl _⟩
  case round =>
    clear hA hS
    obtain ⟨k, hk, rfl, hj, hA, hS, hsz⟩ := hrel
    by_cases hlt : k < st.length
    · obtain ⟨b', off', rfl, hB', hc'⟩ := hS (by omega)
      obtain ⟨s0, s1, s2⟩ := hc' k hlt
      obtain ⟨⟨r0, r1⟩, _⟩ := hA.r.at2
      obtain ⟨⟨m0, m1, m2⟩, _⟩ := hA.m.at3
      obtain ⟨n0, _⟩ := hA.n.at1
      have lr' : br < wr.heap.size := by omega
      have lm' : bm < wr.heap.size := by omega
      have ln' : bn < wr.heap.size := by omega
      obtain ⟨⟨d1, d2⟩, ⟨d3, d4⟩, d5, d6⟩ := HST.out k hlt
      clear hc'
      gi_wp2
      refine ⟨trivial, (callsIn_wide.2 (squareAt_any _ _ _ HHS.out hq.1 hq15)).mono ?_⟩
      rintro e w2 ⟨rfl, hb2⟩
      have hb2' := (below_of wr (.cells #[.int .i64 (stAt st k).dx, .int .i64 (stAt st k).dy, .int .i64 (stAt st k).far] 129)).trans (hb2.mono (by first | (simp; done) | (simp; omega) | omega))
      have hs2 := (Blk.new wr #[.int .i64 (stAt st k).dx, .int .i64 (stAt st k).dy, .int .i64 (stAt st k).far] 129).below hb2 (by first | (simp; done) | (simp; omega) | omega)
      obtain ⟨⟨e0, e1, e2⟩, _⟩ := hs2.at3
      have ls := hs2.lt
      clear hb2
      gi_wp2
      have hq3 := Blk.new w2 #[.int .i64 side, .int .i64 (m.far % side), .int .i64 (m.far / side)] 170
      have hs3 := hs2.alloc (.cells #[.int .i64 side, .int .i64 (m.far % side), .int .i64 (m.far / side)] 170)
      have hb3 := hb2'.alloc (by omega) (.cells #[.int .i64 side, .int .i64 (m.far % side), .int .i64 (m.far / side)] 170)
      generalize hW3 : w2.alloc _ = W3 at *
      have hA3 := hA.below (hb3.mono hsz) lo lr lm ln
      have hS3 := hS.below (hb3.mono (Nat.le_trans lo hsz))
      have hj3 := HJ.out _ _ _ hj (hb3.mono hsz)
      have hz3 := hb3.size
      generalize hbs : wr.heap.size = bs at *
      generalize hbq : w2.heap.size = bq at *
      clear hW3 hbs hbq hb3 e0 e1 e2 hs2 r0 r1 m0 m1 m2 n0 s0 s1 s2
      clear hA hS hj hb2'
      gi_loopw [27] (fun i w' => ∃ (j : Nat) (a : Int) (done : List Int), j ≤ (stAt st k).far.toNat ∧ i = .int .i64 j ∧ (0 ≤ a ∧ a < side * side) ∧
        attL side l st m.far (k + 1) = attL side l st m.far k ++ done ++ rayL side l (stAt st k).dx (stAt st k).dy ((stAt st k).far.toNat - j) a ∧
        J (attL side l st m.far k ++ done) w' ∧ AttAt w' n₀ br bm bn side (some ⟨b, off, none⟩) c ks M cm l m ∧ IsSteps w' n₀ (some ⟨b', off', none⟩) st ∧
        Blk w' bs #[.int .i64 (stAt st k).dx, .int .i64 (stAt st k).dy, .int .i64 (stAt st k).far] 129 ∧ Blk w' bq #[.int .i64 side, .int .i64 (a % side), .int .i64 (a / side)] 170 ∧ W.heap.size ≤ w'.heap.size) (fun i _ => (stAt st k).far.toNat - (intOf i).toNat)
      case atStart => exact ⟨0, m.far, [], by omega, rfl, hq, by simp [attL, stepL], by simpa using hj3, hA3, hS3, hs3, hq3, by omega⟩
      case round =>
        clear hA3 hS3 hj3 hs3 hq3 hz3
        obtain ⟨j, a, done, hj1, rfl, ⟨ha0, ha1⟩, hatt, hj, hA, hS, hsb, hqb, hsz'⟩ := hrel
        by_cases hjl : j < (stAt st k).far.toNat
        · obtain ⟨⟨s0, s1, s2⟩, _⟩ := hsb.at3
          obtain ⟨⟨q0, q1, q2⟩, _⟩ := hqb.at3
          have l1 := hsb.lt
          have l2 := hqb.lt
          obtain ⟨⟨x0, x1⟩, y0, y1⟩ := div_bd HHS.out ha0 ha1
          have hside : side ≤ 4 := by rcases HHS.out with rfl | rfl | rfl <;> omega
          have HX := Lib.hid (And.intro x0 (And.intro x1 (And.intro y0 (And.intro y1 hside))))
          have HA := Lib.hid (And.intro ha0 ha1)
          have HT := Lib.hid hatt
          clear x0 x1 y0 y1 ha0 ha1 hatt
          gi_wp2
          refine ⟨trivial, (callsIn_wide.2 (shifted_any _ _ _ _ _ _ (by have := HX.out; omega) (by have := HX.out; omega) (by omega) (by omega))).mono ?_⟩
          rintro e w4 ⟨rfl, hb4⟩
          have hq4 := hqb.below hb4 l2
          obtain ⟨⟨q0, q1, q2⟩, f0, f1, f2⟩ := hq4.at3
          gi_wp2
          have hq5 := hq4.set3 (.int .i64 side) (.int .i64 (a % side + (stAt st k).dx)) (.int .i64 (a / side + (stAt st k).dy))
          have hs5 := (((hsb.below hb4 l1).other ⟨bq, 0, none⟩ (.int .i64 side) (by simp; omega)).other ⟨bq, 1, none⟩ (.int .i64 (a % side + (stAt st k).dx)) (by simp; omega)).other ⟨bq, 2, none⟩ (.int .i64 (a / side + (stAt st k).dy)) (by simp; omega)
          have hb5 := (((hb4.mono hsz').setCell (p := ⟨bq, 0, none⟩) (by simp; omega) (.int .i64 side)).setCell (p := ⟨bq, 1, none⟩) (by simp; omega) (.int .i64 (a % side + (stAt st k).dx))).setCell (p := ⟨bq, 2, none⟩) (by simp; omega) (.int .i64 (a / side + (stAt st k).dy))
          generalize hW5 : ((w4.setCell _ _).setCell _ _).setCell _ _ = W5 at *
          clear hW5 q0 q1 q2 f0 f1 f2 hq4 hb4 s0 s1 s2 hsb hqb
          have l3 := hq5.lt
          have l4 := hs5.lt
          have hz5 := hb5.size
          obtain ⟨j', hj'⟩ : ∃ j', (stAt st k).far.toNat - j = j' + 1 := ⟨(stAt st k).far.toNat - j - 1, by omega⟩
          by_cases hon : 0 ≤ a % side + (stAt st k).dx ∧ a % side + (stAt st k).dx < side ∧ 0 ≤ a / side + (stAt st k).dy ∧ a / side + (stAt st k).dy < side
          · obtain ⟨g1, g2, g3, g4⟩ := nextV_in HHS.out HA.out hon
            have HO := Lib.hid (onB_next.2 hon)
            have HG := Lib.hid (And.intro g2 (And.intro g3 g4))
            clear g1 g2 g3 g4 hon
            refine ⟨trivial, (callsIn_wide.2 (onBoard_any _ _ _ _)).mono ?_⟩
            rw [HO.out]
            rintro e w6 ⟨rfl, hb6⟩
            have hq6 := hq5.below hb6 l3
            obtain ⟨⟨q0, q1, q2⟩, _⟩ := hq6.at3
            gi_wp2
            refine ⟨trivial, (callsIn_wide.2 (number_next _ _ _ _ _ HHS.out)).mono ?_⟩
            rintro e w7 ⟨rfl, hb7⟩
            have hb7' := (hb5.trans (hb6.mono (by omega))).trans (hb7.mono (by have := hb6.size; omega))
            have hq7 := hq6.below hb7 hq6.lt
            have hs7 := (hs5.below hb6 l4).below hb7 (hs5.below hb6 l4).lt
            have hj7 := HJ.out _ _ _ hj hb7'
            have hA7 := hA.below hb7' lo lr lm ln
            have hS7 := hS.below (hb7'.mono lo)
            have hz7 := hb7'.size
            clear q0 q1 q2 hq6 hq5 hs5 hb7 hb6 hb5 hA hS hj
            have hne : ∃ tl, rayL side l (stAt st k).dx (stAt st k).dy ((stAt st k).far.toNat - j) a = nextV side a (stAt st k).dx (stAt st k).dy :: tl := by
              rw [hj']
              by_cases hmm : manV l (nextV side a (stAt st k).dx (stAt st k).dy) = -1
              · exact ⟨_, rayL_on (by have := HG.out; omega) hmm⟩
              · exact ⟨_, rayL_last (by have := HG.out; omega) hmm⟩
            obtain ⟨tl, htl⟩ := hne
            have hpre : (attL side l st m.far k ++ done) ++ [nextV side a (stAt st k).dx (stAt st k).dy] <+: attL side l st m.far st.length := by
              refine List.IsPrefix.trans ⟨tl, ?_⟩ (attL_pre (show k + 1 ≤ st.length from hlt))
              rw [HT.out, htl]; simp
            have HP := Lib.hid hpre
            have hlen' : (attL side l st m.far k ++ done).length < (attL side l st m.far st.length).length := by
              have := hpre.length_le; simp at this ⊢; omega
            have hY7 := HYY.out _ (nextV side a (stAt st k).dx (stAt st k).dy) w7 hj7 hlen' HP.out
            clear hpre hlen' htl
            unfold YieldAt at hY7
            obtain ⟨fn, tmps, assign, body, hy, hR⟩ := hY7
            gi_wp2
            refine hR.mono ?_
            rintro e W8 (⟨rfl, hj8, hk8⟩ | ⟨rfl, hJx8⟩)
            · have hA8 := hA7.kept hk8
              have hS8 := hS7.below (hk8.toBelow (by omega) (fun b hb => .inl hb))
              have hs8 := blk_kept hs7 hk8 (by omega)
              have hq8 := blk_kept hq7 hk8 (by omega)
              have hz8 := hk8.size
              obtain ⟨⟨q0, q1, q2⟩, _⟩ := hq8.at3
              obtain ⟨n0, _⟩ := hA8.n.at1
              have l5 := hq8.lt
              have l6 := hs8.lt
              have l7 := hA8.n.lt
              have t8 := hA8.men.more hA8.low
              clear hq7 hs7 hA7 hS7 hj7 hy hR hk8 hb7'
              by_cases hmm : manV l (nextV side a (stAt st k).dx (stAt st k).dy) = -1
              · have hd : (manV l (nextV side a (stAt st k).dx (stAt st k).dy) != -1) = false := by simp [hmm]
                have HM := Lib.hid (rayL_on (s := side) (l := l) (dx := (stAt st k).dx) (dy := (stAt st k).dy) (n := j') (a := a) (by have := HG.out; omega) hmm)
                clear hmm
                gi_wp2
                refine wpIn_wide.2 ?_
                refine wp_region_below (W := W8) (by kernel_rfl) (by kernel_rfl) (Below.refl _ _) ?_
                repeat (first
                  | (refine qs_skip (by rfl) ?_; simp only [Act.put, List.setIfInBounds_toArray, List.set_cons_zero, List.set_cons_succ])
                  | (apply qs_take
                     focus rfl
                     focus (
                       intro wq hwq
                       obtain ⟨hcq, hfq⟩ := bcell hwq
                       go_simp
                       all_goals first
                         | exact rfl
                         | (go_at_call 126; refine (number_next _ _ _ _ _ HHS.out).mono ?_; exact fun e w2 h => ⟨h.1, hwq.trans (h.2.mono hwq.size)⟩)
                         | (go_at_call 66; refine (manAt_any _ _ _ _ _ ((t8.below hwq).more hwq.size) hl).mono ?_; exact fun e w2 h => ⟨h.1, hwq.trans (h.2.mono hwq.size)⟩)
                         | (exact ⟨trivial, rfl⟩))
                     simp only [Act.put, List.setIfInBounds_toArray, List.set_cons_zero, List.set_cons_succ]))
                refine wpQuiet_nil ?_
                intro wq hwq
                gi_wp2
                go_roundw
                case rel =>
                  refine ⟨j + 1, nextV side a (stAt st k).dx (stAt st k).dy, done ++ [nextV side a (stAt st k).dx (stAt st k).dy], by omega, by go_num, HG.out.1, ?_, ?_, hA8.below hwq hA8.low hA8.r.lt hA8.m.lt hA8.n.lt, hS8.below (hwq.mono (by omega)), hs8.below hwq l6, ?_, by have := hwq.size; omega⟩
                  · rw [HT.out, hj', HM.out, show (stAt st k).far.toNat - (j + 1) = j' by omega]; simp
                  · rw [← List.append_assoc]; exact HJ.out _ _ _ hj8 (hwq.mono (by omega))
                  · rw [HG.out.2.1, HG.out.2.2]; exact hq8.below hwq l5
                case measure => simp [intOf]; omega
              · have hd : (manV l (nextV side a (stAt st k).dx (stAt st k).dy) != -1) = true := by simp [hmm]
                have HM := Lib.hid (rayL_last (s := side) (l := l) (dx := (stAt st k).dx) (dy := (stAt st k).dy) (n := j') (a := a) (by have := HG.out; omega) hmm)
                clear hmm
                gi_wp2
                refine wpIn_wide.2 ?_
                refine wp_region_below (W := W8) (by kernel_rfl) (by kernel_rfl) (Below.refl _ _) ?_
                repeat (first
                  | (refine qs_skip (by rfl) ?_; simp only [Act.put, List.setIfInBounds_toArray, List.set_cons_zero, List.set_cons_succ])
                  | (apply qs_take
                     focus rfl
                     focus (
                       intro wq hwq
                       obtain ⟨hcq, hfq⟩ := bcell hwq
                       go_simp
                       all_goals first
                         | exact rfl
                         | (go_at_call 126; refine (number_next _ _ _ _ _ HHS.out).mono ?_; exact fun e w2 h => ⟨h.1, hwq.trans (h.2.mono hwq.size)⟩)
                         | (go_at_call 66; refine (manAt_any _ _ _ _ _ ((t8.below hwq).more hwq.size) hl).mono ?_; exact fun e w2 h => ⟨h.1, hwq.trans (h.2.mono hwq.size)⟩)
                         | (exact ⟨trivial, rfl⟩))
                     simp only [Act.put, List.setIfInBounds_toArray, List.set_cons_zero, List.set_cons_succ]))
                refine wpQuiet_nil ?_
                intro wq hwq
                gi_wp2
                go_roundw
                case rel =>
                  refine ⟨k + 1, by omega, by go_num, ?_, hA8.below hwq hA8.low hA8.r.lt hA8.m.lt hA8.n.lt, hS8.below (hwq.mono (by omega)), by have := hwq.size; omega⟩
                  rw [HT.out, hj', HM.out]; exact HJ.out _ _ _ hj8 (hwq.mono (by omega))
                case measure => simp [intOf]; omega
            · gi_wp2
              refine bodyPost_ret (results_none rfl _ _ _) rfl ?_
              exact ⟨⟨_, rfl⟩, .inr ⟨_, HP.out, hJx8⟩⟩
          · have HO : Hid (onB side (a % side + (stAt st k).dx) (a / side + (stAt st k).dy) = false) := Lib.hid (by
              cases h : onB side (a % side + (stAt st k).dx) (a / side + (stAt st k).dy)
              · rfl
              · exact absurd (onB_next.1 h) hon)
            have HR := Lib.hid (rayL_off (s := side) (l := l) (dx := (stAt st k).dx) (dy := (stAt st k).dy) (n := j') (a := a) (by rw [nextV_out hon]; omega))
            clear hon
            refine ⟨trivial, (callsIn_wide.2 (onBoard_any _ _ _ _)).mono ?_⟩
            rw [HO.out]
            rintro e w6 ⟨rfl, hb6⟩
            gi_wp2
            go_roundw
            case rel =>
              have hb := hb5.trans (hb6.mono (by omega))
              refine ⟨k + 1, by omega, by go_num, ?_, hA.below hb lo lr lm ln, hS.below (hb.mono lo), by have := hb.size; omega⟩
              rw [HT.out, hj', HR.out, List.append_nil]; exact HJ.out _ _ _ hj hb
            case measure => simp [intOf]; omega
        · obtain rfl : j = (stAt st k).far.toNat := by omega
          gi_wp2
          go_roundw
          case rel =>
            refine ⟨k + 1, by omega, by go_num, ?_, hA, hS, hsz'⟩
            rw [hatt, Nat.sub_self]; simpa [rayL] using hj
          case measure => simp [intOf]; omega
    · obtain rfl : k = st.length := by omega
      gi_wp2
      go_end0
      exact ⟨⟨_, rfl⟩, .inl ⟨_, rfl, hj⟩⟩
end Go.Proofs.YtcgfklljbblhlaaGreatDoor.Ko
