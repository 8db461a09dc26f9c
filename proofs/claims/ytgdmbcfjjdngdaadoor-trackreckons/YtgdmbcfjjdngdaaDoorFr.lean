/- What the proofs of layer 18's laws share: the laid table, points and what is asked, read. -/
import Derived.Test.YtgdmbcfjjdngdaaDoorBf
import Derived.Test.YtgdmbcfjjdngdaaDoorF1
import Derived.Test.YtgdmbcfjjdngdaaDoorCards
import Derived.Test.YtgdmbcfjjdngdaaDoorTie
import Derived.ProofKit
import Derived.OpenShut
import Derived.Lib.SmallJoins
import Derived.Lib.LaidTab
import Derived.Deep.Slices
import Derived.Deep.SlicePairs
import Derived.Lay
import Derived.Stop.Joined
import Derived.Stop.LaidErr
import Derived.SevenTiedAt
import Derived.SizedLaws
import Derived.Carry
set_option linter.unusedSimpArgs false
namespace Go.Proofs.YtgdmbcfjjdngdaaDoor
open Go.ChangeShapes Go.WideShapes Go.ChangeAt Go.RowKit Go.Joins

theorem own : ownKnob Tryd.prog.godebug = none := by kernel_rfl
theorem laidOut : laidOutB Tryd.prog = true := by kernel_rfl
theorem Tryd.cells5 : Tryd.prog.cellsOf 5 = 1 := by kernel_rfl
theorem Tryd.cells150 : Tryd.prog.cellsOf 150 = 64 := by kernel_rfl
theorem Tryd.cells21 : Tryd.prog.cellsOf 21 = 1 := by kernel_rfl
theorem Tryd.cells22 : Tryd.prog.cellsOf 22 = 1 := by kernel_rfl
theorem Tryd.cells24 : Tryd.prog.cellsOf 24 = 2 := by kernel_rfl
theorem Tryd.cells25 : Tryd.prog.cellsOf 25 = 1 := by kernel_rfl
theorem Tryd.cells26 : Tryd.prog.cellsOf 26 = 1 := by kernel_rfl
theorem Tryd.cells28 : Tryd.prog.cellsOf 28 = 8 := by kernel_rfl
theorem Tryd.bytes24 : Tryd.prog.bytesOf 24 = 8 := by kernel_rfl
theorem tab_of_tabIs {W : World} (h : Lib.TabIs Tryd.prog W "math/bits.deBruijn64tab" .u8 (Lib.deBruijn64tab.map (fun n : Nat => (n : Int)))) : Tab W := fun j hj => by
  have := h.cell (show Tryd.prog.globalNamed "math/bits.deBruijn64tab" = some 2 by kernel_rfl) j (by simpa using hj)
  rw [this]
  simp [List.getD, hj]
theorem tab_Speeds {W : World} (h : laidMetH Tryd.prog Rows.trackSpeedsRow.laid W) : Tab W := by
  rw [MakeChecks.laidMetH_plain _ _ _ (by kernel_rfl)] at h
  exact tab_of_tabIs (Lib.tabIs_of_head (zs := Lib.deBruijn64tab.map (fun n : Nat => (n : Int))) (show Tryd.prog.globalNamed "math/bits.deBruijn64tab" = some 2 by kernel_rfl) (show (Tryd.prog.globals[2]?).map (·.type) = some 150 by kernel_rfl) Tryd.underlying150 Tryd.underlying5 Tryd.cells5 Tryd.cells150 h)
theorem tab_Nil {W : World} (h : laidMetH Tryd.prog Rows.trackNilRow.laid W) : Tab W := by
  rw [MakeChecks.laidMetH_plain _ _ _ (by kernel_rfl)] at h
  exact tab_of_tabIs (Lib.tabIs_of_head (zs := Lib.deBruijn64tab.map (fun n : Nat => (n : Int))) (show Tryd.prog.globalNamed "math/bits.deBruijn64tab" = some 2 by kernel_rfl) (show (Tryd.prog.globals[2]?).map (·.type) = some 150 by kernel_rfl) Tryd.underlying150 Tryd.underlying5 Tryd.cells5 Tryd.cells150 h)
theorem tab_Turns {W : World} (h : laidMetH Tryd.prog Rows.trackTurnsRow.laid W) : Tab W := by
  rw [MakeChecks.laidMetH_plain _ _ _ (by kernel_rfl)] at h
  exact tab_of_tabIs (Lib.tabIs_of_head (zs := Lib.deBruijn64tab.map (fun n : Nat => (n : Int))) (show Tryd.prog.globalNamed "math/bits.deBruijn64tab" = some 2 by kernel_rfl) (show (Tryd.prog.globals[2]?).map (·.type) = some 150 by kernel_rfl) Tryd.underlying150 Tryd.underlying5 Tryd.cells5 Tryd.cells150 h)
theorem tab_Reckons {W : World} (h : laidMetH Tryd.prog Rows.trackReckonsRow.laid W) : Tab W := by
  rw [MakeChecks.laidMetH_plain _ _ _ (by kernel_rfl)] at h
  exact tab_of_tabIs (Lib.tabIs_of_head (zs := Lib.deBruijn64tab.map (fun n : Nat => (n : Int))) (show Tryd.prog.globalNamed "math/bits.deBruijn64tab" = some 2 by kernel_rfl) (show (Tryd.prog.globals[2]?).map (·.type) = some 150 by kernel_rfl) Tryd.underlying150 Tryd.underlying5 Tryd.cells5 Tryd.cells150 h)
theorem wf_i32 {a : Int} (h : (Lit.int .i32 a).wf = true) : in32 a := by
  unfold in32
  simpa [Lit.wf, IntKind.min, IntKind.max, IntKind.signed, IntKind.bits] using h
theorem wf_u32 {a : Int} (h : (Lit.int .u32 a).wf = true) : ∃ n : Nat, a = n ∧ n < 4294967296 := by
  have : 0 ≤ a ∧ a ≤ 4294967295 := by simpa [Lit.wf, IntKind.min, IntKind.max, IntKind.signed, IntKind.bits] using h
  exact ⟨a.toNat, by omega, by omega⟩
theorem wf_u64 {a : Int} (h : (Lit.int .u64 a).wf = true) : ∃ n : Nat, a = n ∧ n < 18446744073709551616 := by
  have : 0 ≤ a ∧ a ≤ 18446744073709551615 := by simpa [Lit.wf, IntKind.min, IntKind.max, IntKind.signed, IntKind.bits] using h
  exact ⟨a.toNat, by omega, by omega⟩
theorem add_none (b off k : Nat) : (⟨b, off, none⟩ : Addr).add k = ⟨b, off + k, none⟩ := by unfold Addr.add; split <;> simp_all
theorem list2 {α : Type} {l : List α} (h : l.length = 2) : ∃ c0 c1, l = [c0, c1] := by
  match l, h with
  | [c0, c1], _ => exact ⟨c0, c1, rfl⟩
theorem array2 {α : Type} {l : Array α} (h : l.size = 2) : ∃ c0 c1, l = #[c0, c1] := by
  obtain ⟨l⟩ := l
  match l, h with
  | [c0, c1], _ => exact ⟨c0, c1, rfl⟩
/-- Points where a slice reads them. -/
def PtsAt (w : World) (a : Option Addr) (l : List (Int × Int)) : Prop := ∀ k x, l[k]? = some x → ∃ b off, a = some ⟨b, off, none⟩ ∧ w.cell? ⟨b, off + k * 2, none⟩ = some (.int .i32 x.1) ∧ w.cell? ⟨b, off + k * 2 + 1, none⟩ = some (.int .i32 x.2) ∧ in32 x.1 ∧ in32 x.2
section
variable {H : Type} {enc : TypeId × Value → H} {w : World} {base : Nat} {spare : Nat → Bool} {held : Bool}
set_option maxRecDepth 100000 in
theorem trod_pt {fuel : Nat} {cs : List Value} {z : DataW H × List MemPlace} (h : DataW.trod enc Tryd.prog w base spare held fuel 24 cs = some z) :
    ∃ x y, cs = [.int .i32 x, .int .i32 y] ∧ in32 x ∧ in32 y := by
  obtain ⟨y0, y1, n, hx, hl, h0, h1⟩ := trod_struct2 Tryd.underlying24 h
  obtain ⟨c0, c1, rfl⟩ := list2 (hl.trans Tryd.cells24)
  · simp only [Tryd.cells21, List.drop_zero, List.take_succ_cons, List.take_zero, List.drop_succ_cons] at h0 h1
    obtain ⟨x, e0, rfl, wx⟩ := DataW.trod_int Tryd.underlying21 h0
    obtain ⟨y, e1, rfl, wy⟩ := DataW.trod_int Tryd.underlying21 h1
    simp only [List.cons.injEq, and_true] at e0 e1
    subst e0 e1
    exact ⟨x, y, rfl, wf_i32 wx, wf_i32 wy⟩
set_option maxRecDepth 100000 in
theorem open_pt {r : Reach} {b0 : Nat} {v : Value} {d : DataW H} {p : List MemPlace} (hv : Value.okWide Tryd.prog w r b0 24 v) (h : DataW.Trod enc Tryd.prog w base spare held 24 v d p) :
    ∃ x y, v = pt x y ∧ in32 x ∧ in32 y := by
  obtain ⟨cs, rfl, hsz⟩ := okWide_struct Tryd.underlying24 hv
  obtain ⟨c0, c1, rfl⟩ := array2 (hsz.trans Tryd.cells24)
  obtain ⟨fuel, hf⟩ := h
  obtain ⟨x, y, e, wx, wy⟩ := trod_pt hf
  simp only [Value.cells, List.cons.injEq, and_true] at e
  obtain ⟨rfl, rfl⟩ := e
  exact ⟨x, y, rfl, wx, wy⟩
set_option maxRecDepth 100000 in
theorem open_pts {fuel : Nat} {c : Value} {z : DataW H × List MemPlace} (hf : DataW.trod enc Tryd.prog w base spare held fuel 26 [c] = some z) :
    ∃ (a0 : Option Addr) (cap : Nat) (l : List (Int × Int)), c = .slice a0 l.length cap ∧ PtsAt w a0 l := by
  rcases Go.Deep.open_slice Tryd.underlying26 hf with ⟨hcs, hx⟩ | ⟨a, len, cap, m, n, D, Pl, hcs, _, hl, hm, hmm, hx, hc⟩
  · simp only [List.cons.injEq, and_true] at hcs
    subst hcs
    exact ⟨none, 0, [], rfl, fun k x hk => (by cases hk)⟩
  · simp only [List.cons.injEq, and_true] at hcs
    subst hcs
    have hm' : len ≤ m := by rw [hmm]; split <;> omega
    rw [Tryd.cells24] at hc
    obtain ⟨X, hX⟩ := Go.Deep.choose_lt (α := Int × Int) (n := m) (p := fun i x => w.cell? ((a.add (i * 2)).add 0) = some (.int .i32 x.1) ∧ w.cell? ((a.add (i * 2)).add 1) = some (.int .i32 x.2) ∧ in32 x.1 ∧ in32 x.2) (fun i hi => by
      obtain ⟨cs', h1, h2⟩ := hc i hi
      obtain ⟨_, _, hcell⟩ := World.cells?_some h1
      obtain ⟨x, y, rfl, wx, wy⟩ := trod_pt h2
      exact ⟨(x, y), hcell 0 (by omega), hcell 1 (by omega), wx, wy⟩)
    refine ⟨some a, cap, (List.range len).map X, by simp, fun k x hk => ?_⟩
    have hk' : k < len := by have := (List.getElem?_eq_some_iff.1 hk).1; simpa using this
    have ex : X k = x := by simpa [hk'] using hk
    obtain ⟨b, off, spot⟩ := a
    obtain ⟨c0, c1, w0, w1⟩ := hX k (by omega)
    have hspot : spot = none := by simpa [Addr.add] using World.cell?_spot (hX 0 (by omega)).1
    subst hspot
    rw [ex] at c0 c1 w0 w1
    simp only [add_none] at c0 c1
    exact ⟨b, off, rfl, c0, c1, w0, w1⟩
set_option maxRecDepth 100000 in
theorem open_ask {r : Reach} {b0 : Nat} {v : Value} {d : DataW H} {p : List MemPlace} (hv : Value.okWide Tryd.prog w r b0 28 v) (h : DataW.Trod enc Tryd.prog w base spare held 28 v d p) :
    ∃ (o : Nat) (x y u z : Int) (t0 t : Nat) (a : Option Addr) (c : Nat) (l : List (Int × Int)), v = .agg #[.int .u64 (o : Int), .int .i32 x, .int .i32 y, .int .i32 u, .int .i32 z, .int .u32 (t0 : Int), .int .u32 (t : Int), .slice a l.length c] ∧
      o < 18446744073709551616 ∧ in32 x ∧ in32 y ∧ in32 u ∧ in32 z ∧ t0 < 4294967296 ∧ t < 4294967296 ∧ PtsAt w a l := by
  obtain ⟨cs, rfl, hsz⟩ := okWide_struct Tryd.underlying28 hv
  obtain ⟨fuel, hf⟩ := h
  obtain ⟨xs, n, _, hx, hlen, hl, hi⟩ := DataW.trod_struct Tryd.underlying28 hf
  have hl' : xs.length = 6 := hl
  have hc : cs.size = 8 := hsz.trans Tryd.cells28
  obtain ⟨cs⟩ := cs
  match cs, hc with
  | [c0, c1, c2, c3, c4, c5, c6, c7], _ =>
    match xs, hl' with
    | [y0, y1, y2, y3, y4, y5], _ =>
      have h0 := hi 0 _ rfl
      have h1 := hi 1 _ rfl
      have h2 := hi 2 _ rfl
      have h3 := hi 3 _ rfl
      have h4 := hi 4 _ rfl
      have h5 := hi 5 _ rfl
      simp [Value.cells, Tryd.cells22, Tryd.cells24, Tryd.cells25, Tryd.cells26] at h0 h1 h2 h3 h4 h5
      obtain ⟨o, e0, _, w0⟩ := DataW.trod_int Tryd.underlying22 h0
      obtain ⟨x, y, e1, wx, wy⟩ := trod_pt h1
      obtain ⟨u, z, e2, wu, wz⟩ := trod_pt h2
      obtain ⟨t0, e3, _, w3⟩ := DataW.trod_int Tryd.underlying25 h3
      obtain ⟨t, e4, _, w4⟩ := DataW.trod_int Tryd.underlying25 h4
      obtain ⟨a, c, l, rfl, hP⟩ := open_pts h5
      obtain ⟨o', rfl, ho⟩ := wf_u64 w0
      obtain ⟨t0', rfl, ht0⟩ := wf_u32 w3
      obtain ⟨t', rfl, ht⟩ := wf_u32 w4
      simp only [List.cons.injEq, and_true] at e0 e1 e2 e3 e4
      obtain ⟨rfl, rfl⟩ := e1
      obtain ⟨rfl, rfl⟩ := e2
      subst e0 e3 e4
      exact ⟨o', x, y, u, z, t0', t', a, c, l, rfl, ho, wx, wy, wu, wz, ht0, ht, hP⟩
end
end Go.Proofs.YtgdmbcfjjdngdaaDoor
