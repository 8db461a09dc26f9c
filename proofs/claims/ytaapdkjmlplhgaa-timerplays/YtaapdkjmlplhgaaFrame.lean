/- Arguments opened: dues and lists of dues. -/
import Derived.Test.YtaapdkjmlplhgaaAh
import Derived.ProofKit
import Derived.OpenShut
import Derived.Lib.SmallJoins
import Derived.SizedLaws
import Derived.Deep.Slices
import Derived.Carry
namespace Go.Proofs.Ytaapdkjmlplhgaa
open Go.ChangeShapes Go.WideShapes Go.ChangeAt Go.RowKit Go.Joins

theorem nown : ownKnob Try.prog.godebug = none := by kernel_rfl
theorem Try.cells30 : Try.prog.cellsOf 30 = 1 := by kernel_rfl
theorem Try.cells32 : Try.prog.cellsOf 32 = 3 := by kernel_rfl
section
variable {H : Type} {enc : TypeId × Value → H} {w : World} {base : Nat} {spare : Nat → Bool} {held : Bool}
abbrev duD (H : Type) (x : Du) : DataW H := .agg [.lit (.int .u32 x.1), .lit (.int .u32 x.2.1), .lit (.int .u32 x.2.2)]
abbrev wd (x : Du) : Prop := (Lit.int .u32 x.1).wf = true ∧ (Lit.int .u32 x.2.1).wf = true ∧ (Lit.int .u32 x.2.2).wf = true
theorem wd_ok {x : Du} (h : wd x) : okD x := ⟨wf_u32 h.1, wf_u32 h.2.1, wf_u32 h.2.2⟩
set_option maxRecDepth 100000 in
theorem trod_due {fuel : Nat} {cs : List Value} {z : DataW H × List MemPlace} (h : DataW.trod enc Try.prog w base spare held fuel 32 cs = some z) :
    ∃ x : Du, cs = dL x ∧ z = (duD H x, []) ∧ wd x := by
  obtain ⟨xs, n, _, hx, hlen, hl, hi⟩ := DataW.trod_struct Try.underlying32 h
  have hl' : xs.length = 3 := hl
  have hc : cs.length = 3 := hlen.trans Try.cells32
  match cs, hc with
  | [c0, c1, c2], _ =>
    match xs, hl' with
    | [y0, y1, y2], _ =>
      have h0 := hi 0 _ rfl
      have h1 := hi 1 _ rfl
      have h2 := hi 2 _ rfl
      simp [Try.cells30] at h0 h1 h2
      obtain ⟨a, e0, rfl, w0⟩ := DataW.trod_int Try.underlying30 h0
      obtain ⟨b, e1, rfl, w1⟩ := DataW.trod_int Try.underlying30 h1
      obtain ⟨c, e2, rfl, w2⟩ := DataW.trod_int Try.underlying30 h2
      simp only [List.cons.injEq, and_true] at e0 e1 e2
      subst e0 e1 e2
      refine ⟨(a, b, c), rfl, ?_, w0, w1, w2⟩
      simpa using hx
theorem add_zero' (b off j : Nat) : (⟨b, off, none⟩ : Addr).add j = ⟨b, off + j, none⟩ := by unfold Addr.add; split <;> simp_all
theorem open_dues {fuel : Nat} {a0 : Option Addr} {len cap : Nat} {z : DataW H × List MemPlace} (hf : DataW.trod enc Try.prog w base spare held fuel 36 (Value.slice a0 len cap).cells.toList = some z) :
    ∃ l : List Du, l.length = len ∧ Pts w a0 l ∧ ∀ x ∈ l, okD x := by
  rcases Go.Deep.open_slice Try.underlying36 hf with ⟨hcs, hx⟩ | ⟨a, len', cap', m, n, D, Pl, hcs, _, hl, hm, hmm, hx, hc⟩
  · simp [Value.cells] at hcs
    obtain ⟨rfl, rfl, rfl⟩ := hcs
    exact ⟨[], rfl, fun i hi => absurd hi (by simp), fun x hx => by cases hx⟩
  · simp [Value.cells] at hcs
    obtain ⟨rfl, rfl, rfl⟩ := hcs
    have hm' : len ≤ m := by rw [hmm]; split <;> omega
    rw [Try.cells32] at hc
    obtain ⟨X, hX⟩ := Go.Deep.choose_lt (α := Du) (n := m) (p := fun i x => okD x ∧ ∀ j u, (dL x)[j]? = some u → w.cell? ((a.add (i * 3)).add j) = some u) (fun i hi => by
      obtain ⟨cs', h1, h2⟩ := hc i hi
      obtain ⟨_, _, hcell⟩ := World.cells?_some h1
      obtain ⟨x, rfl, _, hw⟩ := trod_due h2
      refine ⟨x, wd_ok hw, fun j u hu => ?_⟩
      have hj : j < 3 := by
        have := (List.getElem?_eq_some_iff.1 hu).1
        simpa using this
      have h3 := hcell j (by omega)
      rw [h3]
      simpa using hu)
    refine ⟨(List.range len).map X, by simp, fun k hk => ?_, fun x hx => ?_⟩
    · have hk' : k < len := by simpa using hk
      have ex : nth ((List.range len).map X) k = X k := by simp [nth, List.getD, hk']
      rw [ex]
      obtain ⟨b, off, spot⟩ := a
      have c := (hX k (by omega)).2
      have hspot : spot = none := by simpa [Addr.add] using World.cell?_spot ((hX 0 (by omega)).2 0 _ rfl)
      subst hspot
      have c0 := c 0 _ rfl
      have c1 := c 1 _ rfl
      have c2 := c 2 _ rfl
      simp only [add_zero', Nat.add_zero] at c0 c1 c2
      exact ⟨b, off, rfl, c0, c1, c2⟩
    · obtain ⟨k, hk, rfl⟩ := List.mem_map.1 hx
      exact (hX k (by have := List.mem_range.1 hk; omega)).1
end
end Go.Proofs.Ytaapdkjmlplhgaa
