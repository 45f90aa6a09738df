/- An append of a whole list of numbers, an empty one too. -/
import Derived.Test.YtjanalljaacnoaaJs
import Derived.Test.YtjanalljaacnoaaJx
namespace Go.Proofs.Ytjanalljaacnoaa.Ko
open Go.ChangeShapes Go.WideShapes Go.ChangeAt Go.RowKit Base Sq In
set_option linter.unusedVariables false
set_option maxRecDepth 20000

theorem nums_append (a b : List Int) : nums (a ++ b) = nums a ++ nums b := by simp [nums]
theorem wpList_append_ints {P : Program} (w : World) {ops : Array Oper} {rest : List Oper} {o : Oper} {a : Act} {Q : Exit → Act → World → Prop}
    (hgd : o.guard = none) (s x : Operand) (t : TypeId) (ho : o.op = .call { callee := .builtin .append, args := #[s, x], argTypes := #[t, t] })
    (base : Nat) (i : TypeInfo) (ht : P.underlying t = some (.slice 3)) (hi : P.info? 3 = some i) (hz : i.zero = some (.int .i64 0)) (hsize : i.size = 1) (hby : i.bytes = 8)
    (A : Option Addr) (c : Nat) (l L LL : List Int) (hs : a.eval s = .slice A l.length c) (hown : In.Own w base (.slice A l.length c) l) (B : Option Addr) (d : Nat) (hx : a.eval x = .slice B L.length d) (hB : IsInts w w.heap.size B L) (hLL : LL = l ++ L)
    (h63 : l.length + L.length ≤ maxLen) (hbytes : (l.length + L.length) * 8 ≤ 140737488355328) (hbase : base ≤ w.heap.size)
    (h : ∀ B' d' w', In.Own w' base (.slice B' LL.length d') LL → Below base w w' → wpList P ops Q rest (a.put o.dst (.slice B' LL.length d')) w') : wpList P ops Q (o :: rest) a w := by
  subst hLL
  rcases Nat.eq_zero_or_pos L.length with h0 | h0
  · have hL : L = [] := List.length_eq_zero_iff.1 h0
    subst hL
    have hcap : l.length ≤ c := by
      rcases hown.2 with ⟨hv, hn⟩ | ⟨g, cap, cur, hv, _, _, hn, _⟩
      · omega
      · simp only [Value.slice.injEq] at hv; omega
    refine wpList_append_zero w hgd s x t ho 3 i ht hi A B l.length c d hs hx hcap ?_
    have := h A c w (by simpa using hown) (Below.refl _ _)
    simpa using this
  · obtain ⟨b, rfl⟩ := hB.some h0
    refine wpList_append_own w hgd s x t ho base 3 i _ 1 8 ht hi hz hsize hby rfl (by decide) _ l.length (nums l) hs hown ⟨b, 0, none⟩ L.length d (nums L) hx (by rw [nums_len, Nat.mul_one]) (IsInts.news hB) (nums_one L) h63 hbytes hbase ?_
    intro v' w' hown' hg _
    have hO' : In.Own w' base v' (l ++ L) := by unfold In.Own; rw [nums_append, List.length_append]; exact hown'
    obtain ⟨B', d', rfl⟩ := hO'.slice
    exact h B' d' w' hO' (own_base hown hg (Below.refl base _) (Nat.le_refl _) hbase)
theorem isInts_two (w : World) (x : Int) : IsInts (w.alloc (.cells #[.int .i64 x, .int .i64 x] 3)) (w.alloc (.cells #[.int .i64 x, .int .i64 x] 3)).heap.size (some ⟨w.heap.size, 0, none⟩) [x, x] := fun _ =>
  ⟨w.heap.size, rfl, by simp, fun i hi => by
    have hb := Blk.new w #[.int .i64 x, .int .i64 x] 3
    have : i = 0 ∨ i = 1 := by simp at hi; omega
    rcases this with rfl | rfl
    · exact hb.cell 0
    · exact hb.cell 1⟩
theorem isInts_one (w : World) (x : Int) : IsInts (w.alloc (.cells #[.int .i64 x] 3)) (w.alloc (.cells #[.int .i64 x] 3)).heap.size (some ⟨w.heap.size, 0, none⟩) [x] := fun _ =>
  ⟨w.heap.size, rfl, by simp, fun i hi => by
    have hb := Blk.new w #[.int .i64 x] 3
    have : i = 0 := by simp at hi; omega
    subst this
    exact hb.cell 0⟩
end Go.Proofs.Ytjanalljaacnoaa.Ko
