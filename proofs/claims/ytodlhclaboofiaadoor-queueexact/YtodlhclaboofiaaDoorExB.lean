/- How the law's arguments are read. -/
import Derived.Test.YtodlhclaboofiaaDoorE2c
import Derived.Test.YtodlhclaboofiaaDoorCards
import Derived.Test.YtodlhclaboofiaaDoorTie
import Derived.ProofKit
import Derived.OpenShut
import Derived.Lib.SmallJoins
import Derived.Lib.LaidTab
import Derived.Deep.Slices
import Derived.Lay
import Derived.Stop.Joined
import Derived.Stop.LaidErr
import Derived.SevenTiedAt
import Derived.SizedLaws
import Derived.Carry
namespace Go.Proofs.YtodlhclaboofiaaDoor
open Go.ChangeShapes Go.WideShapes Go.ChangeAt Go.RowKit Go.Joins

theorem own : ownKnob Tryd.prog.godebug = none := by kernel_rfl
theorem laidOut : laidOutB Tryd.prog = true := by kernel_rfl
theorem Tryd.cells3 : Tryd.prog.cellsOf 3 = 1 := by kernel_rfl
theorem Tryd.cells22 : Tryd.prog.cellsOf 22 = 2 := by kernel_rfl
theorem Tryd.cells43 : Tryd.prog.cellsOf 43 = 4 := by kernel_rfl
theorem Tryd.bytes43 : Tryd.prog.bytesOf 43 = 32 := by kernel_rfl
theorem Tryd.cells89 : Tryd.prog.cellsOf 89 = 1 := by kernel_rfl
theorem Tryd.cells96 : Tryd.prog.cellsOf 96 = 20 := by kernel_rfl
theorem tab_of_laid {W : World} (h : laidMetH Tryd.prog Rows.queueExactRow.laid W) : Tab W := by
  rw [MakeChecks.laidMetH_plain _ _ _ (by kernel_rfl)] at h
  have h2 := laidMet.tail (laidMet.tail h)
  exact Lib.tabIs_of_head (zs := Lib.pow10Tab) (show Tryd.prog.globalNamed "internal/strconv.uint64pow10" = some 0 by kernel_rfl) (show (Tryd.prog.globals[0]?).map (·.type) = some 96 by kernel_rfl) Tryd.underlying96 Tryd.underlying89 Tryd.cells89 Tryd.cells96 h2
theorem wf_i64 {a : Int} (h : (Lit.int .i64 a).wf = true) : in64 a := by
  unfold in64
  simpa [Lit.wf, IntKind.min, IntKind.max, IntKind.signed, IntKind.bits] using h
theorem okWide_array {P : Program} {w : World} {r : Reach} {base : Nat} {t : TypeId} {v : Value} {n : Nat} {e : TypeId} (ht : P.underlying t = some (.array n e)) (h : Value.okWide P w r base t v) : ∃ cs, v = .agg cs ∧ cs.size = P.cellsOf t := by
  simp only [Value.okWide, ht] at h
  obtain ⟨cs, h1, h2, _⟩ := h
  exact ⟨cs, h1, h2⟩
theorem add_none (b off k : Nat) : (⟨b, off, none⟩ : Addr).add k = ⟨b, off + k, none⟩ := by unfold Addr.add; split <;> simp_all
section
variable {H : Type} {enc : TypeId × Value → H} {w : World} {base : Nat} {spare : Nat → Bool} {held : Bool}
set_option maxRecDepth 100000 in
theorem trod_step {fuel : Nat} {cs : List Value} {z : DataW H × List MemPlace} (h : DataW.trod enc Tryd.prog w base spare held fuel 43 cs = some z) :
    ∃ a b c d, cs = stL a b c d ∧ (Lit.int .i64 c).wf = true := by
  obtain ⟨xs, n, _, hx, hlen, hl, hi⟩ := DataW.trod_struct Tryd.underlying43 h
  have hl' : xs.length = 4 := hl
  have hc : cs.length = 4 := hlen.trans Tryd.cells43
  match cs, hc with
  | [c0, c1, c2, c3], _ =>
    match xs, hl' with
    | [y0, y1, y2, y3], _ =>
      have h0 := hi 0 _ rfl
      have h1 := hi 1 _ rfl
      have h2 := hi 2 _ rfl
      have h3 := hi 3 _ rfl
      simp [Tryd.cells3] at h0 h1 h2 h3
      obtain ⟨a, e0, rfl, w0⟩ := DataW.trod_int Tryd.underlying3 h0
      obtain ⟨b, e1, rfl, w1⟩ := DataW.trod_int Tryd.underlying3 h1
      obtain ⟨c, e2, rfl, w2⟩ := DataW.trod_int Tryd.underlying3 h2
      obtain ⟨d, e3, rfl, w3⟩ := DataW.trod_int Tryd.underlying3 h3
      simp only [List.cons.injEq, and_true] at e0 e1 e2 e3
      subst e0 e1 e2 e3
      exact ⟨a, b, c, d, rfl, w2⟩
set_option maxRecDepth 100000 in
theorem open_two {r : Reach} {b0 : Nat} {v : Value} {d : DataW H} {p : List MemPlace} (hv : Value.okWide Tryd.prog w r b0 22 v) (h : DataW.Trod enc Tryd.prog w base spare held 22 v d p) :
    ∃ a b, v = .agg #[.int .i64 a, .int .i64 b] := by
  obtain ⟨cs, rfl, hsz⟩ := okWide_array Tryd.underlying22 hv
  obtain ⟨c0, c1, rfl⟩ := array2 (hsz.trans Tryd.cells22)
  obtain ⟨fuel, hf⟩ := h
  obtain ⟨xs, m, _, hx, _, hl, hi⟩ := DataW.trod_array Tryd.underlying22 hf
  match xs, hl with
  | [y0, y1], _ =>
  have h0 := hi 0 (by decide)
  have h1 := hi 1 (by decide)
  simp [Value.cells, Tryd.cells3] at h0 h1
  obtain ⟨a, e0, rfl, w0⟩ := DataW.trod_int Tryd.underlying3 h0
  obtain ⟨b, e1, rfl, w1⟩ := DataW.trod_int Tryd.underlying3 h1
  simp only [List.cons.injEq, and_true] at e0 e1
  subst e0 e1
  exact ⟨a, b, rfl⟩
set_option maxRecDepth 100000 in
theorem open_steps {fuel : Nat} {a0 : Option Addr} {len cap : Nat} {z : DataW H × List MemPlace} (hf : DataW.trod enc Tryd.prog w base spare held fuel 23 (Value.slice a0 len cap).cells.toList = some z) :
    ∃ l : List Stp, l.length = len ∧ Steps w a0 l ∧ (∀ (k : Nat) (x : Stp), l[k]? = some x → in64 x.2.2.1) ∧ (len = 0 ∨ ∃ es sp, z.1 = .slice es sp ∧ es.length = len) := by
  rcases Go.Deep.open_slice Tryd.underlying23 hf with ⟨hcs, hx⟩ | ⟨a, len', cap', m, n, D, Pl, hcs, _, hl, hm, hmm, hx, hc⟩
  · simp [Value.cells] at hcs
    obtain ⟨rfl, rfl, rfl⟩ := hcs
    exact ⟨[], rfl, fun k x hk => by simp at hk, fun k x hk => by simp at hk, .inl rfl⟩
  · simp [Value.cells] at hcs
    obtain ⟨rfl, rfl, rfl⟩ := hcs
    have hm' : len ≤ m := by rw [hmm]; split <;> omega
    rw [Tryd.cells43] at hc
    obtain ⟨X, hX⟩ := Go.Deep.choose_lt (α := Stp) (n := m) (p := fun i x => (∀ j u, (Stp.l x)[j]? = some u → w.cell? ((a.add (i * 4)).add j) = some u) ∧ in64 x.2.2.1) (fun i hi => by
      obtain ⟨cs', h1, h2⟩ := hc i hi
      obtain ⟨_, _, hcell⟩ := World.cells?_some h1
      obtain ⟨kd, on, V, I, rfl, wV⟩ := trod_step h2
      refine ⟨(kd, on, V, I), fun j u hu => ?_, wf_i64 wV⟩
      have hj : j < 4 := by
        have := (List.getElem?_eq_some_iff.1 hu).1
        simpa [Stp.l, stL] using this
      have h3 := hcell j (by omega)
      have h4 : (stL kd on V I)[j]? = some u := hu
      rw [h3]
      simpa using h4)
    refine ⟨(List.range len).map X, by simp, fun k x hk => ?_, fun k x hk => ?_, .inr ⟨_, _, by rw [hx], by simp⟩⟩
    · have hk' : k < len := by have := (List.getElem?_eq_some_iff.1 hk).1; simpa using this
      have ex : X k = x := by simpa [hk'] using hk
      obtain ⟨b, off, spot⟩ := a
      have c := (hX k (by omega)).1
      have hspot : spot = none := by simpa [Addr.add] using World.cell?_spot ((hX 0 (by omega)).1 0 _ rfl)
      subst hspot
      rw [ex] at c
      refine ⟨b, off, rfl, fun j u hu => ?_⟩
      have := c j u hu
      simp only [add_none] at this
      exact this
    · have hk' : k < len := by have := (List.getElem?_eq_some_iff.1 hk).1; simpa using this
      have ex : X k = x := by simpa [hk'] using hk
      rw [← ex]
      exact (hX k (by omega)).2
end
end Go.Proofs.YtodlhclaboofiaaDoor
