/- A range over a function whose iterator has cells of its own and reads memory between two rounds: what the iterator and the loop's body promise each other, and the rule for the loop. -/
import Derived.Test.YtcgfklljbblhlaaGreatDoorBase
import Derived.RangeFuncFrom
import Derived.RangeFuncLeaves
namespace Go.Proofs.YtcgfklljbblhlaaGreatDoor.Rf
open Go.RowKit
set_option linter.unusedVariables false
set_option maxRecDepth 20000

/-- what a round keeps: the blocks of K, and all from B on -/
structure Kept (K : Nat → Prop) (B : Nat) (W W' : World) : Prop where
  os : W'.os = W.os
  tape : W'.tape = W.tape
  output : W'.output = W.output
  size : W.heap.size ≤ W'.heap.size
  same : ∀ b, (K b ∨ B ≤ b) → b < W.heap.size → W'.heap[b]? = W.heap[b]?
theorem Kept.refl (K : Nat → Prop) (B : Nat) (W : World) : Kept K B W W := ⟨rfl, rfl, rfl, Nat.le_refl _, fun _ _ _ => rfl⟩
theorem Kept.trans {K : Nat → Prop} {B : Nat} {a b c : World} (h : Kept K B a b) (k : Kept K B b c) : Kept K B a c :=
  ⟨k.os.trans h.os, k.tape.trans h.tape, k.output.trans h.output, Nat.le_trans h.size k.size, fun i hi hl => (k.same i hi (Nat.lt_of_lt_of_le hl h.size)).trans (h.same i hi hl)⟩
theorem Kept.more {K : Nat → Prop} {B B' : Nat} {a b : World} (h : Kept K B a b) (hB : B ≤ B') : Kept K B' a b :=
  ⟨h.os, h.tape, h.output, h.size, fun i hi hl => h.same i (hi.imp id (Nat.le_trans hB)) hl⟩
theorem Kept.below {K : Nat → Prop} {B : Nat} {W W' : World} (h : Below W.heap.size W W') : Kept K B W W' := ⟨h.os, h.tape, h.output, h.size, fun b _ hl => h.block b hl⟩
theorem Kept.toBelow {K : Nat → Prop} {B n : Nat} {W W' : World} (h : Kept K B W W') (hn : n ≤ W.heap.size) (hK : ∀ b, b < n → K b) : Below n W W' :=
  ⟨h.os, h.tape, h.output, h.size, fun b hb => h.same b (.inl (hK b hb)) (by omega)⟩
theorem Kept.setCell {K : Nat → Prop} {B : Nat} (W : World) (a : Addr) (v : Value) (h1 : ¬ K a.block) (h2 : a.block < B) : Kept K B W (W.setCell a v) :=
  ⟨rfl, rfl, rfl, by simp [World.setCell], fun b hb _ => Below.heap_setCell W a v b (fun e => by subst e; rcases hb with hb | hb; exact h1 hb; omega)⟩
/-- what is said of a world holds on wherever all below B lies as it lay -/
def Firm {β : Type} (B : Nat) (J : β → World → Prop) : Prop := ∀ s A A', J s A → Below B A A' → J s A'
/-- the contract of an iterator: it reads the blocks of K and its own -/
def Over {α : Type} (F : Fence) (n : Nat) (P : Program) (g : Nat) (lb : Array Value) (encs : α → Array Value) (K : Nat → Prop) (S Sp : List α → Prop) (N : Nat) (w : World) : Prop :=
  ∀ (l : Nat) (J Jx : List α → World → Prop) (W : World), Below w.heap.size w W → Firm W.heap.size J → Firm W.heap.size Jx →
    (∀ pre x W1, J pre W1 → pre.length < N → Sp (pre ++ [x]) → YieldAt F (n - 1) P l (encs x) W1 fun e W' =>
      (e = .returned (.bool true) ∧ J (pre ++ [x]) W' ∧ Kept K W.heap.size W1 W') ∨ (e = .returned (.bool false) ∧ Jx (pre ++ [x]) W')) →
    J [] W →
    CallsIn F n P g (#[.func (.yield l) #[] #[]] ++ lb) W fun e W' => (∃ v, e = .returned v) ∧ ((∃ xs, S xs ∧ J xs W') ∨ (∃ pre, Sp pre ∧ Jx pre W'))
/-- how the body of a round may be left -/
def roundPost {α : Type} (K : Nat → Prop) (B : Nat) (I : List α → World → Prop) (Ix : Code → List α → World → Prop) (xs : List α) (W : World) : Exit → Act → World → Prop
  | .normal, _, W' => Kept K B W W' ∧ I xs W'
  | .ret, _, W' => Kept K B W W' ∧ Ix .ret xs W'
  | .exit id, _, W' => Kept K B W W' ∧ Ix (.exit id) xs W'
  | .goto t, _, W' => Kept K B W W' ∧ Ix (.goto t) xs W'
  | .panic _, _, _ => False
  | .outgrown, _, _ => False
theorem put_below {B l : Nat} {W : World} (o : Obj) (hB : B ≤ l) (hl : l < W.heap.size) : Below B W (W.putObj l o) :=
  (Below.refl B W).grown (grownBy_putObj' W l o) (by omega) (fun k e => by cases e; exact hB)

variable {F : Fence} {n : Nat} {P : Program}
theorem wp_over {α : Type} {g : Operand} {ps : Array Tmp} {assign body : Code} {Q : Exit → Act → World → Prop} {a : Act} {w : World}
    (hro : F.round = none) (h1 : 1 ≤ n) {gf : Nat} {lb : Array Value} (hg : a.eval g = .func (.func gf) #[] lb) (hFg : F.fn gf) (eg : ∀ args w, (callFunc gf args).run P w = .ok (.enter gf args) w)
    {encs : α → Array Value} {K : Nat → Prop} {S Sp : List α → Prop} {N : Nat} {w0 : World} (hseq : Over F (n - 1) P gf lb encs K S Sp N w0) (hK : ∀ b, K b → b < w.heap.size)
    (hb0 : Below w0.heap.size w0 w) (hps : ∀ x, (encs x).size = ps.size)
    (I : List α → World → Prop) (Ix : Code → List α → World → Prop) (hI : Firm w.heap.size I) (hIx : ∀ c, Firm w.heap.size (Ix c)) (h0 : I [] w) (a₁ : α → Act)
    (hassign : ∀ (l : Nat) (x : α) (W : World) (K : Act → World → Prop), K (a₁ x) W →
      assign.wpIn (F.inRound l) (n - 1 - 1) P (Exit.then K (fun _ _ _ => False)) { tmps := (ps.zip (encs x)).foldl (fun t (p, v) => t.setIfInBounds p v) a.tmps, defers := [] } W)
    (hbody : ∀ (l : Nat) (pre : List α) (x : α) (W : World), I pre W → pre.length < N → w.heap.size + 2 ≤ W.heap.size → Sp (pre ++ [x]) → body.wpIn (F.inRound l) (n - 1 - 1) P (roundPost K w.heap.size I Ix (pre ++ [x]) W) (a₁ x) W)
    (hdone : ∀ (D : Nat) (xs : List α) (W : World), w.heap.size ≤ D → S xs → I xs W → W.heap[D]? = some (.deferred (some [])) → Q .normal { a with defers := { target := .collected D, args := #[] } :: a.defers } W)
    (hstop : ∀ (D : Nat) (c : Code) (pre : List α) (W : World), w.heap.size ≤ D → Sp pre → Ix c pre W → W.heap[D]? = some (.deferred (some [])) → c.wpIn F n P Q { a with defers := { target := .collected D, args := #[] } :: a.defers } W) :
    (Code.rangeFunc g ps assign body).wpIn F n P Q a w := by
  refine wpIn_rangeFunc fun fn hfn => ?_
  rw [hro]
  obtain ⟨R, hR⟩ : ∃ R : LoopState → Option Code → Loop, R = fun st pe => { state := st, pending := pe, fn, tmps := a.tmps, params := ps, assign, body, defers := w.heap.size } := ⟨_, rfl⟩
  have hR1 : ∀ st pe, (R st pe).state = st := fun _ _ => by rw [hR]
  generalize hW1 : (w.alloc (.deferred (some []))).alloc (.loop (R .ready none)) = W1
  have hs1 : W1.heap.size = w.heap.size + 2 := by rw [← hW1]; simp
  have hL1 : W1.heap[w.heap.size + 1]? = some (.loop (R .ready none)) := by
    rw [← hW1]; have := World.alloc_heap_new (w.alloc (.deferred (some []))) (.loop (R .ready none)); rwa [World.size_alloc] at this
  have hK1 : W1.heap[w.heap.size]? = some (.deferred (some [])) := by
    rw [← hW1]; exact (Below.heap_alloc _ _ _ (by simp)).trans (World.alloc_heap_new w _)
  have hB1 : Below w.heap.size w W1 := by rw [← hW1]; exact ((Below.refl _ w).alloc (Nat.le_refl _) _).alloc (by simp) _
  have hlt : ∀ {W : World} {k : Nat} {o : Obj}, W.heap[k]? = some o → k < W.heap.size := fun h => (Array.getElem?_eq_some_iff.1 h).1
  refine ⟨w.heap.size + 1, [{ target := .collected w.heap.size, args := #[] }], W1, { target := .fn (.func gf) lb, args := #[.func (.yield (w.heap.size + 1)) #[] #[]] }, W1, gf,
    #[.func (.yield (w.heap.size + 1)) #[] #[]] ++ lb, W1, ?_, ?_, ?_, ?_, fun _ => h1, ?_⟩
  · rw [← hW1, hR]; exact run_enterLoop_outer _ _ _ _ _
  · simp only [resolve, hg]
    simp [go_sem]
  · intro f' hf'; simp [Target.leads] at hf'; subst hf'; exact hFg
  · simp [invoke, go_sem, eg]
  refine (hseq (w.heap.size + 1)
      (fun pre W => I pre W ∧ W.heap[w.heap.size + 1]? = some (.loop (R .ready none)) ∧ W.heap[w.heap.size]? = some (.deferred (some [])))
      (fun pre W => ∃ c, Ix c pre W ∧ W.heap[w.heap.size + 1]? = some (.loop (R .done (some c))) ∧ W.heap[w.heap.size]? = some (.deferred (some [])))
      W1 (hb0.trans (hB1.mono hb0.size)) ?_ ?_ ?_ ⟨hI _ _ _ h0 hB1, hL1, hK1⟩).mono ?_
  · rintro s A A' ⟨hi, hl, hk⟩ hb
    exact ⟨hI _ _ _ hi (hb.mono (by omega)), (hb.block _ (by omega)).trans hl, (hb.block _ (by omega)).trans hk⟩
  · rintro s A A' ⟨c, hi, hl, hk⟩ hb
    exact ⟨c, hIx _ _ _ _ hi (hb.mono (by omega)), (hb.block _ (by omega)).trans hl, (hb.block _ (by omega)).trans hk⟩
  · rintro pre x W ⟨hi, hl, hk⟩ hlen hsp
    have hlW := hlt hl
    have hy := run_yield (P := P) (args := encs x) hl (by rw [hR]; exact hps x)
    rw [hR] at hy
    refine ⟨fn, _, assign, body, hy, roundIn_of_wpIn hfn (hassign _ x W _ ⟨_, run_beginRound hl (by rw [hR]), ?_⟩)⟩
    have hB2 := put_below (W := W) (l := w.heap.size + 1) (.loop { R .ready none with state := .busy }) (Nat.le_succ _) hlW
    have hl2 : (W.putObj (w.heap.size + 1) (.loop { R .ready none with state := .busy })).heap[w.heap.size + 1]? = some (.loop { R .ready none with state := .busy }) := World.putObj_heap_same hlW
    have hk2 : (W.putObj (w.heap.size + 1) (.loop { R .ready none with state := .busy })).heap[w.heap.size]? = some (.deferred (some [])) := (World.putObj_heap_other (by omega)).trans hk
    have ho2 : ∀ b, (K b ∨ w.heap.size + 2 ≤ b) → (W.putObj (w.heap.size + 1) (.loop { R .ready none with state := .busy })).heap[b]? = W.heap[b]? := fun b hb =>
      World.putObj_heap_other (by rcases hb with hb | hb; have := hK b hb; omega; omega)
    have hz2 : (W.putObj (w.heap.size + 1) (.loop { R .ready none with state := .busy })).heap.size = W.heap.size := by simp
    have hi2 := hI _ _ _ hi hB2
    have hos2 : ∀ W3 : World, W3.os = (W.putObj (w.heap.size + 1) (.loop { R .ready none with state := .busy })).os → W3.tape = (W.putObj (w.heap.size + 1) (.loop { R .ready none with state := .busy })).tape → W3.output = (W.putObj (w.heap.size + 1) (.loop { R .ready none with state := .busy })).output → W3.os = W.os ∧ W3.tape = W.tape ∧ W3.output = W.output := fun _ h1 h2 h3 => ⟨h1, h2, h3⟩
    generalize hW2 : W.putObj (w.heap.size + 1) (.loop { R .ready none with state := .busy }) = W2 at *
    refine wpIn_mono (hbody _ pre x W2 hi2 hlen (by omega) hsp) ?_
    have fin : ∀ (jump : Option Code) (W3 : World), Kept K w.heap.size W2 W3 →
        (Instr.endRound (w.heap.size + 1) jump).run P W3 = .ok (.bool jump.isNone) (W3.putObj (w.heap.size + 1) (.loop (R (if jump.isNone then .ready else .done) jump))) ∧
        Below w.heap.size W3 (W3.putObj (w.heap.size + 1) (.loop (R (if jump.isNone then .ready else .done) jump))) ∧
        (W3.putObj (w.heap.size + 1) (.loop (R (if jump.isNone then .ready else .done) jump))).heap[w.heap.size + 1]? = some (.loop (R (if jump.isNone then .ready else .done) jump)) ∧
        (W3.putObj (w.heap.size + 1) (.loop (R (if jump.isNone then .ready else .done) jump))).heap[w.heap.size]? = some (.deferred (some [])) ∧
        Kept K (w.heap.size + 2) W (W3.putObj (w.heap.size + 1) (.loop (R (if jump.isNone then .ready else .done) jump))) := fun jump W3 hk3 => by
      have hl3 := (hk3.same (w.heap.size + 1) (.inr (Nat.le_succ _)) (by omega)).trans hl2
      have hd3 := (hk3.same w.heap.size (.inr (Nat.le_refl _)) (by omega)).trans hk2
      have hz3 := hlt hl3
      have he := run_endRound (P := P) jump hl3
      rw [hR] at he ⊢
      refine ⟨he, put_below _ (Nat.le_succ _) hz3, World.putObj_heap_same hz3, (World.putObj_heap_other (by omega)).trans hd3, (hos2 W3 hk3.os hk3.tape hk3.output).1, (hos2 W3 hk3.os hk3.tape hk3.output).2.1, (hos2 W3 hk3.os hk3.tape hk3.output).2.2, by have := hk3.size; simp; omega, fun b hb hlb => ?_⟩
      refine ((World.putObj_heap_other (by rcases hb with hb | hb; have := hK b hb; omega; omega)).trans (hk3.same b (hb.imp id (by omega)) (by omega))).trans (ho2 b hb)
    rintro e a3 W3 hp
    cases e with
    | normal =>
      obtain ⟨hk3, hi3⟩ := hp
      obtain ⟨he, hb4, hl4, hd4, hk4⟩ := fin none W3 hk3
      exact ⟨_, _, he, .inl ⟨rfl, ⟨hI _ _ _ hi3 hb4, hl4, hd4⟩, hs1 ▸ hk4⟩⟩
    | ret =>
      obtain ⟨hk3, hi3⟩ := hp
      obtain ⟨he, hb4, hl4, hd4, _⟩ := fin (some .ret) W3 hk3
      exact ⟨_, _, he, .inr ⟨rfl, .ret, hIx _ _ _ _ hi3 hb4, hl4, hd4⟩⟩
    | exit id =>
      obtain ⟨hk3, hi3⟩ := hp
      obtain ⟨he, hb4, hl4, hd4, _⟩ := fin (some (.exit id)) W3 hk3
      exact ⟨_, _, he, .inr ⟨rfl, .exit id, hIx _ _ _ _ hi3 hb4, hl4, hd4⟩⟩
    | goto t =>
      obtain ⟨hk3, hi3⟩ := hp
      obtain ⟨he, hb4, hl4, hd4, _⟩ := fin (some (.goto t)) W3 hk3
      exact ⟨_, _, he, .inr ⟨rfl, .goto t, hIx _ _ _ _ hi3 hb4, hl4, hd4⟩⟩
    | panic ch => exact hp.elim
    | outgrown => exact hp.elim
  · rintro e W2 ⟨⟨v, rfl⟩, (⟨xs, hS, hi, hl, hk⟩ | ⟨pre, hSp, c, hi, hl, hk⟩)⟩
    · exact ⟨none, _, by have := run_endLoop (P := P) hl (by rw [hR]; simp); rw [hR] at this; exact this, hdone _ xs _ (Nat.le_refl _) hS (hI _ _ _ hi (put_below _ (Nat.le_succ _) (hlt hl))) ((World.putObj_heap_other (by omega)).trans hk)⟩
    · exact ⟨some c, _, by have := run_endLoop (P := P) hl (by rw [hR]; simp); rw [hR] at this; exact this, hstop _ c pre _ (Nat.le_refl _) hSp (hIx _ _ _ _ hi (put_below _ (Nat.le_succ _) (hlt hl))) ((World.putObj_heap_other (by omega)).trans hk)⟩
end Go.Proofs.YtcgfklljbblhlaaGreatDoor.Rf
