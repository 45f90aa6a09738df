/- An append of a whole list of pairs, an empty one too. -/
import Derived.Test.YtjanalljaacnoaaJp
import Derived.ArgAppend
namespace Go.Proofs.Ytjanalljaacnoaa.Ko
open Go.ChangeShapes Go.WideShapes Go.ChangeAt Go.RowKit Base Sq In
set_option linter.unusedVariables false
set_option maxRecDepth 20000

theorem run_append_zero {P : Program} {w : World} (t ty e : TypeId) (i : TypeInfo) (ht : P.underlying t = some (.slice e)) (hi : P.info? e = some i) (A B : Option Addr) (n cap d : Nat) (hn : n ≤ cap) :
    (Builtin.append_ #[t, t] ty #[.slice A n cap, .slice B 0 d]).run P w = .ok (.slice A n cap) w := by
  cases A <;> cases B <;> simp [Builtin.append_, run_underlying ht, sizeOf, typeInfo, hi, Builtin.lenOf, Builtin.firstCells, hn, storeCells, loadCells, loadCellsFrom]
theorem wpList_append_zero {P : Program} (w : World) {ops : Array Oper} {rest : List Oper} {o : Oper} {a : Act} {Q : Exit → Act → World → Prop}
    (hg : o.guard = none) (s x : Operand) (t : TypeId) (hop : o.op = .call { callee := .builtin .append, args := #[s, x], argTypes := #[t, t] })
    (e : TypeId) (i : TypeInfo) (h1 : P.underlying t = some (.slice e)) (h2 : P.info? e = some i) (A B : Option Addr) (n cap d : Nat) (hs : a.eval s = .slice A n cap) (hx : a.eval x = .slice B 0 d) (hn : n ≤ cap)
    (hK : wpList P ops Q rest (a.put o.dst (.slice A n cap)) w) : wpList P ops Q (o :: rest) a w := by
  refine wpList_plain hg fun K hK' => ?_
  have hrun := run_append_zero (P := P) (w := w) t o.type e i h1 h2 A B n cap d hn
  unfold Oper.wp
  simp [execOp, hop, resolve, invoke, builtin, hs, hx, hrun, Result.andThen]
  exact hK' _ _ hK
theorem cellsP_one (l : List Pr) : ∀ u ∈ cellsP l, u.oneCell' = true := by
  induction l with
  | nil => intro u hu; simp [cellsP] at hu
  | cons p l ih =>
    intro u hu
    simp only [cellsP, List.mem_cons] at hu
    rcases hu with rfl | rfl | hu
    · rfl
    · rfl
    · exact ih u hu
theorem cellsP_append (a b : List Pr) : cellsP (a ++ b) = cellsP a ++ cellsP b := by
  induction a with
  | nil => rfl
  | cons p a ih => simp only [List.cons_append, cellsP, ih]
theorem cellsP_get {l : List Pr} {j : Nat} {u : Value} (h : (cellsP l)[j]? = some u) : j / 2 < l.length ∧ ((j % 2 = 0 ∧ u = .int .i64 (prAt l (j / 2)).1) ∨ (j % 2 = 1 ∧ u = .int .i64 (prAt l (j / 2)).2)) := by
  have hj : j < (cellsP l).length := (List.getElem?_eq_some_iff.1 h).1
  rw [cellsP_len] at hj
  have h0 : j / 2 < l.length := by omega
  obtain ⟨e1, e2⟩ := cellsP_at l (j / 2) h0
  refine ⟨h0, ?_⟩
  have hm : j % 2 = 0 ∨ j % 2 = 1 := by omega
  rcases hm with hm | hm
  · left
    rw [show j / 2 * 2 = j by omega, h] at e1
    exact ⟨hm, by injection e1⟩
  · right
    rw [show j / 2 * 2 + 1 = j by omega, h] at e2
    exact ⟨hm, by injection e2⟩
theorem addr_at (b j : Nat) : Addr.add ⟨b, 0, none⟩ j = ⟨b, j, none⟩ := by
  unfold Addr.add
  split
  · rename_i h0; rw [h0]
  · simp
/-- the append of a list of pairs that is known, to an own one -/
theorem wpList_append_prs {P : Program} (w : World) {ops : Array Oper} {rest : List Oper} {o : Oper} {a : Act} {Q : Exit → Act → World → Prop}
    (hgd : o.guard = none) (s x : Operand) (t : TypeId) (ho : o.op = .call { callee := .builtin .append, args := #[s, x], argTypes := #[t, t] })
    (base : Nat) (T : TypeId) (i : TypeInfo) (ht : P.underlying t = some (.slice T)) (hi : P.info? T = some i) (hz : i.zero = some (.agg #[.int .i64 0, .int .i64 0])) (hsize : i.size = 2) (hby : i.bytes = 16)
    (A : Option Addr) (c : Nat) (l L LL : List Pr) (hs : a.eval s = .slice A l.length c) (hown : OwnP T w base (.slice A l.length c) l) (B : Option Addr) (d : Nat) (hx : a.eval x = .slice B L.length d) (hB : IsPr T w w.heap.size B L) (hLL : LL = l ++ L)
    (h63 : l.length + L.length ≤ maxLen) (hbytes : (l.length + L.length) * 16 ≤ 140737488355328) (hbase : base ≤ w.heap.size)
    (h : ∀ B' d' w', OwnP T w' base (.slice B' LL.length d') LL → Below base w w' → (∀ g vs T', T' ≠ T → Blk w g vs T' → Blk w' g vs T') → wpList P ops Q rest (a.put o.dst (.slice B' LL.length d')) w') : wpList P ops Q (o :: rest) a w := by
  subst hLL
  rcases Nat.eq_zero_or_pos L.length with h0 | h0
  · have hL : L = [] := List.length_eq_zero_iff.1 h0
    subst hL
    have hcap : l.length ≤ c := by
      rcases hown.2 with ⟨hv, hn⟩ | ⟨g, cap, cur, hv, _, _, hn, _⟩
      · omega
      · simp only [Value.slice.injEq] at hv; omega
    refine wpList_append_zero w hgd s x t ho T i ht hi A B l.length c d hs hx hcap ?_
    have := h A c w (by simpa using hown) (Below.refl _ _) (fun _ _ _ _ hb => hb)
    simpa using this
  · obtain ⟨b, cs, rfl, h1, h2, h3, h4, h5⟩ := hB h0
    refine wpList_append_own w hgd s x t ho base T i _ 2 16 ht hi hz hsize hby rfl (by decide) _ l.length (cellsP l) hs hown ⟨b, 0, none⟩ L.length d (cellsP L) hx (cellsP_len L) (fun j u hu => ?_) (cellsP_one L) h63 hbytes hbase ?_
    · obtain ⟨hj, hv⟩ := cellsP_get hu
      obtain ⟨e1, e2⟩ := h5 _ hj
      rw [addr_at, h3.cell]
      rcases hv with ⟨hm, rfl⟩ | ⟨hm, rfl⟩
      · rw [show j / 2 * 2 = j by omega] at e1; exact e1
      · rw [show j / 2 * 2 + 1 = j by omega] at e2; exact e2
    · intro v' w' hown' hg _
      have hO' : OwnP T w' base v' (l ++ L) := by unfold OwnP; rw [cellsP_append, List.length_append]; exact hown'
      obtain ⟨B', d', rfl⟩ := hO'.slice
      refine h B' d' w' hO' (OwnP.base hown hg (Below.refl base _) (Nat.le_refl _) hbase) (fun g vs T' hT hb => ?_)
      refine (hg.block g hb.lt (fun he => ?_)).trans hb
      rcases hown.2 with ⟨hv, _⟩ | ⟨g', cap, cur, hv, _, hg', _⟩
      · rw [hv] at he; simp [Value.ownBlock] at he
      · rw [hv] at he
        simp only [Value.ownBlock, Option.some.injEq] at he
        subst he
        have h2 : w.heap[g]? = some (.cells vs T') := hb
        rw [hg'] at h2
        simp at h2
        exact hT h2.2.symm
theorem OwnP.one {T : TypeId} {w : World} {base g : Nat} {x y : Int} (hB : base ≤ g) (hg : Blk w g #[.int .i64 x, .int .i64 y] T) : OwnP T w base (.slice (some ⟨g, 0, none⟩) 1 1) [(x, y)] :=
  ⟨rfl, .inr ⟨g, 1, #[.int .i64 x, .int .i64 y], rfl, hB, hg, Nat.le_refl _, by unfold maxLen; omega, rfl, rfl⟩⟩
end Go.Proofs.Ytjanalljaacnoaa.Ko
