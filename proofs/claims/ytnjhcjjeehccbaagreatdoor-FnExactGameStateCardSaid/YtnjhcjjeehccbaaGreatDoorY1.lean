/- MatOk and CodeMany of the model; coder.many of the program. coder.many and Rules.squares of the program. coderOf of the program: under way. -/
import Derived.Test.YtnjhcjjeehccbaaGreatDoorPo
import Derived.Deep.RegionHeld3
import Derived.Deep.AppendLies
import Derived.Deep.RegionLaw
import Derived.Deep.Cut
namespace Go.Proofs.YtnjhcjjeehccbaaGreatDoor.Ko
open Go.ChangeShapes Go.WideShapes Go.ChangeAt Go.RowKit Base Sq
set_option linter.unusedVariables false
set_option maxRecDepth 20000
attribute [local irreducible] wpQuiet

/-- MatOk -/
def matV (side : Int) (ks : List Kd) (l : List Pc) : Bool := rulesOk side ks && matB side ks l
theorem specMatOk_any (side : Int) (A : Option Addr) (c : Nat) (ks : List Kd) (M : Option Addr) (cm : Nat) (l : List Pc) (w : World) (hR : IsKinds w w.heap.size A ks) (hM : IsPcs w w.heap.size M l)
    (hsm : Small ks) (hl : l.length ≤ 1048576) :
    Calls Tryz.prog 136 #[.agg #[.int .i64 side, .slice A ks.length c], .slice M l.length cm] w fun e w' => e = .returned (.bool (matV side ks l)) ∧ Below w.heap.size w w' := by
  have hb0 := below_of w (.cells #[.int .i64 side, .slice A ks.length c] 36)
  have hR1 := (hR.below hb0).more hb0.size
  have hM1 := (hM.below hb0).more hb0.size
  cases hok : rulesOk side ks
  · have HK := Lib.hid hok
    clear hok
    go_enter Tryz.func136, Tryz.ntmps136
    go_wp2_with (go_at_call 98; refine (sp_rulesOk _ _ _ _ _ hR1 hsm).mono ?_; rw [HK.out]; rintro e w2 ⟨rfl, hb2⟩)
    go_ret
    exact ⟨rb (by unfold matV; rw [HK.out]; rfl), hb0.trans (hb2.mono hb0.size)⟩
  · have HK := Lib.hid hok
    clear hok
    go_enter Tryz.func136, Tryz.ntmps136
    go_wp2_with fail
    refine (sp_rulesOk _ _ _ _ _ hR1 hsm).mono ?_
    rw [HK.out]
    rintro e w2 ⟨rfl, hb2⟩
    obtain ⟨hc, hf⟩ := bcell hb2
    have hR2 := (hR1.below hb2).more hb2.size
    have hM2 := (hM1.below hb2).more hb2.size
    go_wp2_with fail
    refine (l7Mat_any _ _ _ _ _ _ _ _ hR2 hM2 HK.out hl).mono ?_
    rintro e w3 ⟨rfl, hb3⟩
    go_wp2_with fail
    go_ret
    exact ⟨rb (by unfold matV; rw [HK.out]; first | rfl | simp), hb0.trans ((hb2.trans (hb3.mono hb2.size)).mono hb0.size)⟩
theorem matV_facts {side : Int} {ks : List Kd} {l : List Pc} (h : matV side ks l = true) : rulesOk side ks = true ∧ l.length ≤ 4 := by
  unfold matV matB at h
  simp only [Bool.and_eq_true, decide_eq_true_eq] at h
  exact ⟨h.1, h.2.1.2⟩
/-- CodeMany -/
def manyV (side : Int) (ks : List Kd) (l : List Pc) : Int := if matV side ks l then numV side l.length else -1
end Go.Proofs.YtnjhcjjeehccbaaGreatDoor.Ko

namespace Go.Proofs.YtnjhcjjeehccbaaGreatDoor.Ko
open Go.ChangeShapes Go.WideShapes Go.ChangeAt Go.RowKit Base Sq
set_option linter.unusedVariables false
set_option maxRecDepth 20000
attribute [local irreducible] wpQuiet

theorem many_any (side : Int) (A : Option Addr) (c n : Nat) (M : Option Addr) (cm m : Nat) (D : Option Addr) (cd : Nat) (w : World) (h : In.IsInts w w.heap.size D (basesV side m)) (hs : side = 2 ∨ side = 3 ∨ side = 4) (hm : m ≤ 4) :
    Calls Tryz.prog 144 #[.agg #[.int .i64 side, .slice A n c, .slice M m cm, .slice D (m + 1) cd]] w fun e w' => e = .returned (.int .i64 (numV side m)) ∧ Below w.heap.size w w' := by
  go_enter Tryz.func144, Tryz.ntmps144
  go_wp2_with fail
  refine (numbersMany_any _ _ _ _ _ ((h.below (by repeat (first | exact Below.refl _ _ | assumption | (refine Below.alloc ?_ (by first | omega | (simp; done) | (simp; omega)) _) | (refine Below.setCell ?_ (by first | omega | (simp; done) | (simp; omega)) _) | refine Below.drew ?_))).more (by first | (simp; done) | (simp; omega) | omega)) hs hm).mono ?_
  rintro e w2 ⟨rfl, rfl⟩
  go_wp2_with fail
  go_ret
  exact ⟨rfl, (by repeat (first | exact Below.refl _ _ | assumption | (refine Below.alloc ?_ (by first | omega | (simp; done) | (simp; omega)) _) | (refine Below.setCell ?_ (by first | omega | (simp; done) | (simp; omega)) _) | refine Below.drew ?_))⟩
theorem squares_any (side : Int) (A : Option Addr) (c n : Nat) (w : World) (hs : side = 2 ∨ side = 3 ∨ side = 4) :
    Calls Tryz.prog 177 #[.agg #[.int .i64 side, .slice A n c]] w fun e w' => e = .returned (.int .i64 (side * side)) ∧ Below w.heap.size w w' := by
  have hw1 : IntKind.i64.wrap (side * side) = side * side := IntWalk.i64_in _ (by rcases hs with rfl | rfl | rfl <;> decide)
  clear hs
  go_enter Tryz.func177, Tryz.ntmps177
  go_wp2_with fail
  go_ret
  exact ⟨rfl, (by repeat (first | exact Below.refl _ _ | assumption | (refine Below.alloc ?_ (by first | omega | (simp; done) | (simp; omega)) _) | (refine Below.setCell ?_ (by first | omega | (simp; done) | (simp; omega)) _) | refine Below.drew ?_))⟩
end Go.Proofs.YtnjhcjjeehccbaaGreatDoor.Ko

namespace Go.Proofs.YtnjhcjjeehccbaaGreatDoor.Ko
open Go.ChangeShapes Go.WideShapes Go.ChangeAt Go.RowKit Base Sq
set_option linter.unusedVariables false
set_option maxRecDepth 20000
attribute [local irreducible] wpQuiet

def nilCoder : Value := .agg #[.int .i64 0, .slice none 0 0, .slice none 0 0, .slice none 0 0]
/-- what coderOf returns: a coder with these bases, or none -/
def CoderPost (side : Int) (A : Option Addr) (c : Nat) (ks : List Kd) (M : Option Addr) (cm : Nat) (l : List Pc) (w w' : World) (e : Ending) : Prop :=
  ∃ cv, e = .returned (.tuple #[cv, .bool (matV side ks l)]) ∧ (matV side ks l = false → cv = nilCoder) ∧
    (matV side ks l = true → ∃ D cd, cv = .agg #[.int .i64 side, .slice A ks.length c, .slice M l.length cm, .slice D (l.length + 1) cd] ∧ In.IsInts w' w'.heap.size D (basesV side l.length)) ∧ Below w.heap.size w w'

theorem Blk.at4 {w : World} {b : Nat} {x y z u : Value} {T : TypeId} (h : Blk w b #[x, y, z, u] T) :
    w.cell? ⟨b, 0, none⟩ = some x ∧ w.cell? ⟨b, 1, none⟩ = some y ∧ w.cell? ⟨b, 2, none⟩ = some z ∧ w.cell? ⟨b, 3, none⟩ = some u := ⟨h.cell 0, h.cell 1, h.cell 2, h.cell 3⟩
theorem Blk.free4 {w : World} {b : Nat} {x y z u : Value} {T : TypeId} (h : Blk w b #[x, y, z, u] T) :
    w.frozen? ⟨b, 0, none⟩ = false ∧ w.frozen? ⟨b, 1, none⟩ = false ∧ w.frozen? ⟨b, 2, none⟩ = false ∧ w.frozen? ⟨b, 3, none⟩ = false := ⟨h.free 0, h.free 1, h.free 2, h.free 3⟩
theorem Blk.set4 {w : World} {b : Nat} {x y z u : Value} {T : TypeId} (h : Blk w b #[x, y, z, u] T) (x' y' z' u' : Value) :
    Blk ((((w.setCell ⟨b, 0, none⟩ x').setCell ⟨b, 1, none⟩ y').setCell ⟨b, 2, none⟩ z').setCell ⟨b, 3, none⟩ u') b #[x', y', z', u'] T :=
  (((h.set 0 x').set 1 y').set 2 z').set 3 u'
theorem below_set4 {B : Nat} {w w' : World} (h : Below B w w') {b : Nat} (hb : B ≤ b) (x y z u : Value) :
    Below B w ((((w'.setCell ⟨b, 0, none⟩ x).setCell ⟨b, 1, none⟩ y).setCell ⟨b, 2, none⟩ z).setCell ⟨b, 3, none⟩ u) :=
  (((h.setCell (p := ⟨b, 0, none⟩) hb _).setCell (p := ⟨b, 1, none⟩) hb _).setCell (p := ⟨b, 2, none⟩) hb _).setCell (p := ⟨b, 3, none⟩) hb _

theorem own_block {w : World} {base : Nat} {v : Value} {l : List Int} (h : In.Own w base v l) {k : Nat} (hk : v.ownBlock = some k) : ∃ cur, Blk w k cur 3 := by
  rcases h.2 with ⟨rfl, _⟩ | ⟨g, cap, cur, rfl, hb, hg, _⟩
  · simp [Value.ownBlock] at hk
  · simp [Value.ownBlock] at hk; subst hk; exact ⟨cur, hg⟩
theorem own_ne {w : World} {base : Nat} {v : Value} {l : List Int} (h : In.Own w base v l) {g : Nat} {cs : Array Value} {T : TypeId} (hb : Blk w g cs T) (hT : T ≠ 3) : v.ownBlock ≠ some g := fun hk => by
  obtain ⟨cur, hc⟩ := own_block h hk
  unfold Blk at hc hb
  rw [hc] at hb
  injection hb with h1
  injection h1 with _ h2
  exact hT h2.symm
theorem own_other {w : World} {base : Nat} {v : Value} {l : List Int} (h : In.Own w base v l) (a : Addr) (u : Value) (hne : v.ownBlock ≠ some a.block) : In.Own (w.setCell a u) base v l := by
  refine ⟨h.1, ?_⟩
  rcases h.2 with h0 | ⟨g, cap, cur, hv, hB, hg, rest⟩
  · exact .inl h0
  · refine .inr ⟨g, cap, cur, hv, hB, Blk.other hg a u (fun he => hne ?_), rest⟩
    rw [hv, ← he]; rfl
theorem own_other4 {w : World} {base : Nat} {v : Value} {l : List Int} (h : In.Own w base v l) {b : Nat} (x y z u : Value) (hne : v.ownBlock ≠ some b) :
    In.Own ((((w.setCell ⟨b, 0, none⟩ x).setCell ⟨b, 1, none⟩ y).setCell ⟨b, 2, none⟩ z).setCell ⟨b, 3, none⟩ u) base v l :=
  own_other (own_other (own_other (own_other h _ _ hne) _ _ hne) _ _ hne) _ _ hne

/-- what holds at each round's head -/
def CoInv (w wr : World) (g : Nat) (side : Int) (A : Option Addr) (c : Nat) (ks : List Kd) (M : Option Addr) (cm m : Nat) (k : Nat) (v : Value) : Prop :=
  In.Own wr (w.heap.size + 2) v (basesV side k) ∧ Blk wr w.heap.size #[.int .i64 side, .slice A ks.length c] 36 ∧ Blk wr (w.heap.size + 1) #[.int .i64 0, .slice none 0 0, .slice none 0 0, .slice none 0 0] 132 ∧
    Blk wr g #[.int .i64 side, .slice A ks.length c, .slice M m cm, v] 132 ∧ w.heap.size + 2 ≤ g ∧ Below w.heap.size w wr
theorem own_row {w : World} {base k : Nat} {v : Value} {side : Int} (h : In.Own w base v (basesV side k)) : w.ownsRow base 3 1 v (k + 1) (In.nums (basesV side k)) := by have := h; unfold In.Own at this; rwa [bases_len] at this
theorem own_two (side : Int) (w : World) (base : Nat) (hB : base ≤ w.heap.size) : In.Own (w.alloc (.cells #[.int .i64 2] 3)) base (.slice (some ⟨w.heap.size, 0, none⟩) 1 1) (basesV side 0) :=
  ⟨rfl, .inr ⟨w.heap.size, 1, #[.int .i64 2], rfl, hB, Blk.new w #[.int .i64 2] 3, Nat.le_refl _, by decide, rfl, rfl⟩⟩

set_option maxHeartbeats 4000000 in
theorem coderOf_any (side : Int) (A : Option Addr) (c : Nat) (ks : List Kd) (M : Option Addr) (cm : Nat) (l : List Pc) (w : World) (hR : IsKinds w w.heap.size A ks) (hM : IsPcs w w.heap.size M l)
    (hsm : Small ks) (hl : l.length ≤ 1048576) :
    Calls Tryz.prog 143 #[.agg #[.int .i64 side, .slice A ks.length c], .slice M l.length cm] w fun e w' => CoderPost side A c ks M cm l w w' e := by
  have hbx := (below_of w (.cells #[.int .i64 side, .slice A ks.length c] 36)).alloc (by first | (simp; done) | (simp; omega) | omega) (.cells #[.int .i64 0, .slice none 0 0, .slice none 0 0, .slice none 0 0] 132)
  have hR1 := (hR.below hbx).more hbx.size
  have hM1 := (hM.below hbx).more hbx.size
  cases hok : rulesOk side ks
  · have HK := Lib.hid hok
    have HV := Lib.hid (show matV side ks l = false by unfold matV; rw [hok]; rfl)
    clear hok
    go_enter Tryz.func143, Tryz.ntmps143
    go_wp2_with fail
    have pc := Blk.new (w.alloc (.cells #[.int .i64 side, .slice A ks.length c] 36)) #[.int .i64 0, .slice none 0 0, .slice none 0 0, .slice none 0 0] 132
    refine (rulesOk_any _ _ _ _ _ hR1 hsm).mono ?_
    rw [HK.out]
    rintro e w2 ⟨rfl, hb2⟩
    obtain ⟨hc, hf⟩ := bcell hb2
    have pc2 := pc.below hb2 pc.lt
    have hbe := hbx.trans (hb2.mono hbx.size)
    have hx := Blk.at4 (Blk.set4 pc2 (.int .i64 0) (.slice none 0 0) (.slice none 0 0) (.slice none 0 0))
    have hB := below_set4 hbe (b := w.heap.size + 1) (by omega) (.int .i64 0) (.slice none 0 0) (.slice none 0 0) (.slice none 0 0)
    try simp only [World.size_alloc] at hx
    go_wp2_with fail
    refine bodyPost_ret (v := .tuple #[nilCoder, .bool false]) ?_ rfl ⟨nilCoder, by rw [HV.out], fun _ => rfl, (fun h => by rw [HV.out] at h; cases h), hB⟩
    obtain ⟨x0, x1, x2, x3⟩ := hx
    simp [results, Tryz.results143, go_sem, nilCoder, x0, x1, x2, x3]
  · have HOK := Lib.hid hok
    obtain ⟨hs, _⟩ := rulesOk_facts hok
    have HSD := Lib.hid hs
    clear hs hok
    by_cases hl4 : l.length ≤ 4
    · have hl4' : ¬ (4 : Int) < (l.length : Int) := by omega
      cases hkn : knownB ks l
      · have HK := Lib.hid hkn
        have HV := Lib.hid (show matV side ks l = false by unfold matV matB; rw [hkn]; simp)
        clear hkn
        go_enter Tryz.func143, Tryz.ntmps143
        go_wp2_with fail
        have pc := Blk.new (w.alloc (.cells #[.int .i64 side, .slice A ks.length c] 36)) #[.int .i64 0, .slice none 0 0, .slice none 0 0, .slice none 0 0] 132
        refine (rulesOk_any _ _ _ _ _ hR1 hsm).mono ?_
        rw [HOK.out]
        rintro e w2 ⟨rfl, hb2⟩
        obtain ⟨hc, hf⟩ := bcell hb2
        have pc2 := pc.below hb2 pc.lt
        have hbe := hbx.trans (hb2.mono hbx.size)
        have hR2 := (hR1.below hb2).more hb2.size
        have hM2 := (hM1.below hb2).more hb2.size
        go_wp2_with fail
        refine (matKnown_any _ _ _ _ _ _ _ _ hR2 hM2 HOK.out hl).mono ?_
        rw [HK.out]
        rintro e w3 ⟨rfl, hb3⟩
        have pc3 := Blk.below pc2 hb3 pc2.lt
        have hbe3 := hbe.trans (hb3.mono hbe.size)
        have hz2 := hb2.size
        simp only [World.size_alloc] at hz2
        have pr3 := Blk.below ((Blk.alloc (Blk.new w #[.int .i64 side, .slice A ks.length c] 36) (.cells #[.int .i64 0, .slice none 0 0, .slice none 0 0, .slice none 0 0] 132)).below hb2 (by simp; omega)) hb3 (by omega)
        obtain ⟨⟨r0, r1⟩, _⟩ := pr3.at2
        have hf3 := Blk.free4 pc3
        simp only [World.size_alloc] at hf3 pc3
        obtain ⟨f0, f1, f2, f3⟩ := hf3
        clear hc hf
        obtain ⟨c0, c1, c2, c3⟩ := Blk.at4 pc3
        have hx := Blk.at4 (Blk.set4 pc3 (.int .i64 0) (.slice none 0 0) (.slice none 0 0) (.slice none 0 0))
        have hB := below_set4 hbe3 (b := w.heap.size + 1) (by omega) (.int .i64 0) (.slice none 0 0) (.slice none 0 0) (.slice none 0 0)
        try simp only [World.size_alloc] at hx
        go_wp2_with fail
        refine bodyPost_ret (v := .tuple #[nilCoder, .bool false]) ?_ rfl ⟨nilCoder, by rw [HV.out], fun _ => rfl, (fun h => by rw [HV.out] at h; cases h), hB⟩
        obtain ⟨x0, x1, x2, x3⟩ := hx
        simp [results, Tryz.results143, go_sem, nilCoder, x0, x1, x2, x3]
      · have HK := Lib.hid hkn
        have hMV : matV side ks l = decide (numV side l.length ≤ 2000) := by unfold matV matB; rw [HOK.out, hkn, decide_eq_true hl4]; simp
        have HMV := Lib.hid hMV
        clear hkn hMV
        go_enter Tryz.func143, Tryz.ntmps143
        go_wp2_with fail
        have pc := Blk.new (w.alloc (.cells #[.int .i64 side, .slice A ks.length c] 36)) #[.int .i64 0, .slice none 0 0, .slice none 0 0, .slice none 0 0] 132
        refine (rulesOk_any _ _ _ _ _ hR1 hsm).mono ?_
        rw [HOK.out]
        rintro e w2 ⟨rfl, hb2⟩
        obtain ⟨hc, hf⟩ := bcell hb2
        have pc2 := pc.below hb2 pc.lt
        have hbe := hbx.trans (hb2.mono hbx.size)
        have hR2 := (hR1.below hb2).more hb2.size
        have hM2 := (hM1.below hb2).more hb2.size
        go_wp2_with fail
        refine (matKnown_any _ _ _ _ _ _ _ _ hR2 hM2 HOK.out hl).mono ?_
        rw [HK.out]
        rintro e w3 ⟨rfl, hb3⟩
        have pc3 := Blk.below pc2 hb3 pc2.lt
        have hbe3 := hbe.trans (hb3.mono hbe.size)
        have hz2 := hb2.size
        simp only [World.size_alloc] at hz2
        have pr3 := Blk.below ((Blk.alloc (Blk.new w #[.int .i64 side, .slice A ks.length c] 36) (.cells #[.int .i64 0, .slice none 0 0, .slice none 0 0, .slice none 0 0] 132)).below hb2 (by simp; omega)) hb3 (by omega)
        obtain ⟨⟨r0, r1⟩, _⟩ := pr3.at2
        have hf3 := Blk.free4 pc3
        simp only [World.size_alloc] at hf3 pc3
        obtain ⟨f0, f1, f2, f3⟩ := hf3
        clear hc hf
        have hz3 := hb3.size
        go_wp2_with fail
        have hbq := (hbe3.alloc (by omega) (.cells #[.int .i64 2] 3))
        have hI0 : Hid (CoInv w ((w3.alloc (.cells #[.int .i64 2] 3)).alloc (.cells #[.int .i64 side, .slice A ks.length c, .slice M l.length cm, .slice (some ⟨w3.heap.size, 0, none⟩) 1 1] 132)) (w3.heap.size + 1) side A c ks M cm l.length 0 (.slice (some ⟨w3.heap.size, 0, none⟩) (0 + 1) 1)) := Lib.hid (by
          refine ⟨In.Own.below (own_two side w3 _ (by omega)) (below_of _ _), (pr3.alloc _).alloc _, (pc3.alloc _).alloc _, ?_, by omega, hbq.alloc hbq.size _⟩
          have h := Blk.new (w3.alloc (.cells #[.int .i64 2] 3)) #[.int .i64 side, .slice A ks.length c, .slice M l.length cm, .slice (some ⟨w3.heap.size, 0, none⟩) 1 1] 132
          simp only [World.size_alloc] at h
          exact h)
        obtain ⟨i0, hi, hz0, hz1, hz2'⟩ := info_parts In.infoInt
        have hw1 : IntKind.i64.wrap (side * side + 1) = side * side + 1 := IntWalk.i64_in _ (by rcases HSD.out with rfl | rfl | rfl <;> decide)
        clear hbq pr3 pc3 r0 r1 f0 f1 f2 f3 hb3 hb2 hR2 hM2 pc2 pc hbe hbe3 hR1 hM1 hbx
        generalize hW : (w3.alloc _).alloc _ = W at *
        clear hW
        generalize w3.heap.size + 1 = g at *
        go_loopw [28] (fun i wr => ∃ (k : Nat) (B : Option Addr) (d : Nat), k ≤ l.length ∧ i = .int .i64 k ∧ Hid (CoInv w wr g side A c ks M cm l.length k (.slice B (k + 1) d))) (fun i _ => l.length - (intOf i).toNat)
        case atStart => exact ⟨0, some ⟨w3.heap.size, 0, none⟩, 1, by omega, rfl, hI0⟩
        case round =>
          clear hI0
          obtain ⟨k, B, d, hk, rfl, hI⟩ := hrel
          obtain ⟨hO, hr, hc, hg, hgb, hbe⟩ := hI.out
          have zg := hg.lt
          have zr := hr.lt
          have zc := hc.lt
          have hz := hbe.size
          by_cases hlt : k < l.length
          · have hlt' : (k : Int) < (l.length : Int) := by omega
            have HS : Hid (∀ w', Below wr.heap.size wr w' → (w'.cell? ⟨w.heap.size, 0, none⟩ = some (.int .i64 side) ∧ w'.cell? ⟨w.heap.size, 1, none⟩ = some (.slice A ks.length c) ∧ w'.cell? ⟨g, 3, none⟩ = some (.slice B (k + 1) d))) := Lib.hid (fun w' hb => by
              obtain ⟨⟨a0, a1⟩, _⟩ := (hr.below hb zr).at2
              obtain ⟨_, _, _, b3⟩ := Blk.at4 (hg.below hb zg)
              exact ⟨a0, a1, b3⟩)
            have hw : Below wr.heap.size wr wr.drew := (Below.refl _ _).drew
            go_wp2_with fail
            have hO4 : wr.ownsRow (w.heap.size + 2) 3 1 (.slice B (k + 1) d) (k + 1) (In.nums (basesV side k)) := by have := hO; unfold In.Own at this; rwa [bases_len] at this
            have HO := Lib.hid hO
            have HG := Lib.hid hg
            have HRR := Lib.hid hr
            have HCC := Lib.hid hc
            have hmax : k + 1 + 1 ≤ maxLen := by unfold maxLen; omega
            clear hO hg hr hc hO4 hI
            obtain ⟨s0, s1, s2⟩ := HS.out _ hw
            go_region_law
              (first
                | (go_simp; go_at_call 177; refine (squares_any _ _ _ _ _ HSD.out).mono ?_; rintro e w5 ⟨rfl, hb5⟩; have hw := hw.trans (hb5.mono hw.size); obtain ⟨s0, s1, s2⟩ := HS.out _ hw; obtain ⟨s3, s4, s5⟩ := HS.out _ (hw.alloc hw.size (.cells #[.int .i64 (side * side + 1)] 3)))
                | go_loud (refine step_append_lies _ rfl _ _ _ rfl (w.heap.size + 2) 3 i0 (.int .i64 0) 1 8 Tryz.underlying73 hi hz0 hz1 hz2' rfl (by decide) (.slice B (k + 1) d) (k + 1) (In.nums (basesV side k)) rfl (own_row (In.Own.below (In.Own.below HO.out hw) (below_of w5 (.cells #[.int .i64 (side * side + 1)] 3)))) ⟨w5.heap.size, 0, none⟩ 1 1 [.int .i64 (side * side + 1)] rfl rfl (fun j u hu => World.news_of_block (Blk.new w5 #[.int .i64 (side * side + 1)] 3) j u hu) (fun u hu => by simp at hu; subst hu; rfl) (by decide) hmax (by omega) (by have h := hw.size; show w.heap.size + 2 ≤ (w5.alloc _).heap.size; simp; omega) _ rfl ?_; intro g7 c7 w7 hown' hgrow7 hat7 hlt7; have hO7 : In.Own w7 (w.heap.size + 2) (.slice (some ⟨g7, 0, none⟩) (k + 1 + 1) c7) (basesV side (k + 1)) := (by unfold In.Own; rw [bases_len, bases_snoc, In.nums_snoc]; exact hown'); have HO5 := Lib.hid (In.Own.below (In.Own.below HO.out hw) (below_of w5 (.cells #[.int .i64 (side * side + 1)] 3))); have hbG : Below (w.heap.size + 2) (w5.alloc (.cells #[.int .i64 (side * side + 1)] 3)) w7 := In.own_base HO5.out hgrow7 (Below.refl _ _) (Nat.le_refl _) (by have h := hw.size; show w.heap.size + 2 ≤ (w5.alloc _).heap.size; simp; omega); have hg5 := Blk.alloc (Blk.below HG.out hw zg) (.cells #[.int .i64 (side * side + 1)] 3); have hg7 : Blk w7 g #[.int .i64 side, .slice A ks.length c, .slice M l.length cm, .slice B (k + 1) d] 132 := (hgrow7.block g hg5.lt (fun h => own_ne HO5.out hg5 (by decide) h.symm)).trans hg5; have hr7 := Blk.below (Blk.alloc (Blk.below HRR.out hw zr) (.cells #[.int .i64 (side * side + 1)] 3)) hbG (by omega); have hc7 := Blk.below (Blk.alloc (Blk.below HCC.out hw zc) (.cells #[.int .i64 (side * side + 1)] 3)) hbG (by omega); have hbe7 := ((hbe.trans (hw.mono hz)).alloc (Nat.le_trans hz hw.size) (.cells #[.int .i64 (side * side + 1)] 3)).trans (hbG.mono (by omega)); have x3 := (Blk.at4 hg7).2.2.2; have y3 := (Blk.free4 hg7).2.2.2; have HS7 := Lib.hid (show (w7.cell? ⟨w.heap.size, 0, none⟩ = some (.int .i64 side) ∧ w7.cell? ⟨w.heap.size, 1, none⟩ = some (.slice A ks.length c) ∧ w7.cell? ⟨g, 3, none⟩ = some (.slice B (k + 1) d)) from ⟨hr7.cell 0, hr7.cell 1, x3⟩); clear hbG hg5 hat7))
            all_goals
              go_wp2_with fail
              go_roundw
              case rel => exact ⟨k + 1, some ⟨g7, 0, none⟩, c7, by omega, by go_num, Lib.hid (show CoInv w _ g side A c ks M cm l.length (k + 1) (.slice (some ⟨g7, 0, none⟩) (k + 1 + 1) c7) from ⟨own_other hO7 _ _ (own_ne hO7 hg7 (by decide)), Blk.other hr7 _ _ (by show w.heap.size ≠ g; omega), Blk.other hc7 _ _ (by show w.heap.size + 1 ≠ g; omega), Blk.set hg7 3 _, hgb, hbe7.setCell (by show w.heap.size ≤ g; omega) _⟩)⟩
              case measure => simp [intOf]; omega
          · obtain rfl : k = l.length := by omega
            obtain ⟨A', c', hv, hII⟩ := hO.is
            rw [bases_len] at hv
            obtain ⟨rfl, _, rfl⟩ : B = A' ∧ l.length = l.length ∧ d = c' := by injection hv with h1 h2 h3; exact ⟨h1, rfl, h3⟩
            have HO := Lib.hid hO
            have HII := Lib.hid hII
            obtain ⟨d0, d1, d2, d3⟩ := Blk.at4 hg
            clear hO hII hv hI
            go_wp2_with fail
            refine (many_any side A c ks.length M cm l.length B d wr HII.out HSD.out hl4).mono ?_
            rintro e w8 ⟨rfl, hb8⟩
            have hg8 := Blk.below hg hb8 zg
            have hc8 := Blk.below hc hb8 zc
            have hbe8 := hbe.trans (hb8.mono hz)
            have HO8 := Lib.hid (In.Own.below HO.out hb8)
            have hne8 := own_ne HO8.out hc8 (by decide)
            clear d0 d1 d2 d3 hg hc hr hbe
            obtain ⟨d0, d1, d2, d3⟩ := Blk.at4 hg8
            obtain ⟨c0, c1, c2, c3⟩ := Blk.at4 hc8
            obtain ⟨f0, f1, f2, f3⟩ := Blk.free4 hc8
            by_cases hmn : numV side l.length ≤ 2000
            · have hmn' : ¬ (2000 : Int) < numV side l.length := by omega
              have HV := Lib.hid (show matV side ks l = true by rw [HMV.out]; exact decide_eq_true hmn)
              have hx := Blk.at4 (Blk.set4 hc8 (.int .i64 side) (.slice A ks.length c) (.slice M l.length cm) (.slice B (l.length + 1) d))
              have hB := below_set4 hbe8 (b := w.heap.size + 1) (by omega) (.int .i64 side) (.slice A ks.length c) (.slice M l.length cm) (.slice B (l.length + 1) d)
              have HO9 := Lib.hid (own_other4 HO8.out (b := w.heap.size + 1) (.int .i64 side) (.slice A ks.length c) (.slice M l.length cm) (.slice B (l.length + 1) d) hne8)
              go_wp2_with fail
              obtain ⟨A9, c9, hv9, hI9⟩ := HO9.out.is
              rw [bases_len] at hv9
              obtain ⟨rfl, _, rfl⟩ : B = A9 ∧ l.length = l.length ∧ d = c9 := by injection hv9 with h1 h2 h3; exact ⟨h1, rfl, h3⟩
              refine bodyPost_ret (v := .tuple #[.agg #[.int .i64 side, .slice A ks.length c, .slice M l.length cm, .slice B (l.length + 1) d], .bool true]) ?_ rfl ⟨_, by rw [HV.out], (fun h => by rw [HV.out] at h; cases h), (fun _ => ⟨B, d, rfl, hI9⟩), hB⟩
              obtain ⟨x0, x1, x2, x3⟩ := hx
              simp [results, Tryz.results143, go_sem, x0, x1, x2, x3]
            · have hmn' : (2000 : Int) < numV side l.length := by omega
              have HV := Lib.hid (show matV side ks l = false by rw [HMV.out]; exact decide_eq_false hmn)
              have hx := Blk.at4 (Blk.set4 hc8 (.int .i64 0) (.slice none 0 0) (.slice none 0 0) (.slice none 0 0))
              have hB := below_set4 hbe8 (b := w.heap.size + 1) (by omega) (.int .i64 0) (.slice none 0 0) (.slice none 0 0) (.slice none 0 0)
              try simp only [World.size_alloc] at hx
              go_wp2_with fail
              refine bodyPost_ret (v := .tuple #[nilCoder, .bool false]) ?_ rfl ⟨nilCoder, by rw [HV.out], fun _ => rfl, (fun h => by rw [HV.out] at h; cases h), hB⟩
              obtain ⟨x0, x1, x2, x3⟩ := hx
              simp [results, Tryz.results143, go_sem, nilCoder, x0, x1, x2, x3]
    · have hl4' : (4 : Int) < (l.length : Int) := by omega
      have HV := Lib.hid (show matV side ks l = false by unfold matV matB; rw [decide_eq_false hl4]; simp)
      go_enter Tryz.func143, Tryz.ntmps143
      go_wp2_with fail
      have pc := Blk.new (w.alloc (.cells #[.int .i64 side, .slice A ks.length c] 36)) #[.int .i64 0, .slice none 0 0, .slice none 0 0, .slice none 0 0] 132
      refine (rulesOk_any _ _ _ _ _ hR1 hsm).mono ?_
      rw [HOK.out]
      rintro e w2 ⟨rfl, hb2⟩
      obtain ⟨hc, hf⟩ := bcell hb2
      have pc2 := pc.below hb2 pc.lt
      have hbe := hbx.trans (hb2.mono hbx.size)
      have hx := Blk.at4 (Blk.set4 pc2 (.int .i64 0) (.slice none 0 0) (.slice none 0 0) (.slice none 0 0))
      have hB := below_set4 hbe (b := w.heap.size + 1) (by omega) (.int .i64 0) (.slice none 0 0) (.slice none 0 0) (.slice none 0 0)
      try simp only [World.size_alloc] at hx
      go_wp2_with fail
      refine bodyPost_ret (v := .tuple #[nilCoder, .bool false]) ?_ rfl ⟨nilCoder, by rw [HV.out], fun _ => rfl, (fun h => by rw [HV.out] at h; cases h), hB⟩
      obtain ⟨x0, x1, x2, x3⟩ := hx
      simp [results, Tryz.results143, go_sem, nilCoder, x0, x1, x2, x3]
end Go.Proofs.YtnjhcjjeehccbaaGreatDoor.Ko
