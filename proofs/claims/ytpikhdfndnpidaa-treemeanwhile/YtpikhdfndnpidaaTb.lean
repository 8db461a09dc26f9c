/- The law's sameNumbers: two rows of one list. -/
import Derived.Test.YtpikhdfndnpidaaTn
import Derived.Deep.LoopGhost
set_option linter.unusedSimpArgs false
set_option linter.unusedVariables false
namespace Go.Proofs.Ytpikhdfndnpidaa
open Go.RowKit Go.Sort Go.Shelf

theorem Row.below {w w' : World} {base : Nat} {v : Value} {l : List Int} (h : Row w base v l) (g : Below w.heap.size w w') : Row w' base v l := by
  rcases h.2 with ⟨e, h0⟩ | ⟨b, cap, cur, e, hb, hc, hr⟩
  · exact ⟨h.1, .inl ⟨e, h0⟩⟩
  · exact ⟨h.1, .inr ⟨b, cap, cur, e, hb, (g.block b (lt_of_block hc)).trans hc, hr⟩⟩
/-- A list that a slice reads. -/
def Reads (w : World) (v : Value) (l : List Int) : Prop := ∃ ao cap, v = .slice ao l.length cap ∧ ∀ k x, l[k]? = some x → ∃ b off, ao = some ⟨b, off, none⟩ ∧ w.cell? ⟨b, off + k, none⟩ = some (.int .u32 x)
theorem Row.reads {w : World} {base : Nat} {v : Value} {l : List Int} (h : Row w base v l) : Reads w v l := by
  rcases h.2 with ⟨e, h0⟩ | ⟨b, cap, cur, e, hb, hc, hr⟩
  · refine ⟨none, 0, by rw [e, h0], fun k x hx => ?_⟩
    have : l = [] := List.length_eq_zero_iff.1 h0
    subst this
    cases hx
  · refine ⟨_, cap, e, fun k x hx => ⟨b, 0, rfl, ?_⟩⟩
    have := h.cells (g := b) (by rw [e]; rfl) k (.int .u32 x) (by rw [List.getElem?_map, hx]; rfl)
    have ea : (⟨b, 0, none⟩ : Addr).add k = ⟨b, 0 + k, none⟩ := by unfold Addr.add; split <;> simp_all
    rw [ea] at this
    exact this
theorem Reads.below {w w' : World} {v : Value} {l : List Int} (h : Reads w v l) (g : Below w.heap.size w w') : Reads w' v l := by
  obtain ⟨ao, cap, e, h⟩ := h
  refine ⟨ao, cap, e, fun k x hx => ?_⟩
  obtain ⟨b, off, e2, hc⟩ := h k x hx
  exact ⟨b, off, e2, below_cell hc g⟩
set_option maxRecDepth 20000 in
set_option maxHeartbeats 4000000 in
theorem same_eq (u v : Value) (l : List Int) (hl : l.length ≤ 1000000) (w : World) (hu : Reads w u l) (hv : Reads w v l) : Calls Try.prog 17 #[u, v] w fun e w' => e = .returned (.bool true) ∧ Gr w w' := by
  obtain ⟨au, cu, rfl, hu⟩ := hu
  obtain ⟨av, cv, rfl, hv⟩ := hv
  obtain ⟨N, hN⟩ : ∃ N, N = l.length := ⟨_, rfl⟩
  have HU := hid0 hu
  have HV := hid0 hv
  have HN := hid0 hN
  rw [← hN]
  have hN6 : N ≤ 1000000 := by omega
  clear hu hv hN hl
  go_enter Try.func17, Try.ntmps17
  go_wp2_with fail
  go_loopg [5] N (fun gk i wr => ∃ k : Nat, i = .int .i64 (k : Int) ∧ k ≤ N ∧ gk = N - k ∧ Gr w wr)
  case atStart => exact ⟨0, rfl, Nat.zero_le _, rfl, Gr.refl w⟩
  case round =>
    obtain ⟨k, rfl, hk, rfl, g⟩ := hrel
    by_cases c : k < N
    · have ck : (k : Int) < (N : Int) := by omega
      obtain ⟨x, hx⟩ : ∃ x, l[k]? = some x := ⟨l[k]'(by have := HN.out; omega), List.getElem?_eq_getElem _⟩
      obtain ⟨b1, o1, rfl, e1⟩ := HU.out k x hx
      obtain ⟨b2, o2, rfl, e2⟩ := HV.out k x hx
      have f1 : ∀ n, (wr.drewN n).cell? ⟨b1, o1 + k, none⟩ = some (.int .u32 x) := fun n => below_cell (below_cell e1 g.below) ((Gr.refl wr).drewN n).below
      have f2 : ∀ n, (wr.drewN n).cell? ⟨b2, o2 + k, none⟩ = some (.int .u32 x) := fun n => below_cell (below_cell e2 g.below) ((Gr.refl wr).drewN n).below
      have hw1 : wrap64 ((k : Int) + 1) = ((k + 1 : Nat) : Int) := by unfold wrap64; omega
      have HG := hid0 g
      clear g e1 e2 hx
      go_wp2_with fail
      go_quiet (fail)
      go_wp2
      go_roundg (N - (k + 1))
      case measure => omega
      case rel => exact ⟨k + 1, rfl, by omega, rfl, HG.out.trans ((Gr.refl wr).drewN nq)⟩
    · have ck : ¬ (k : Int) < (N : Int) := by omega
      have HG := hid0 g
      clear g
      go_wp2
      go_ret
      exact ⟨rfl, HG.out⟩
end Go.Proofs.Ytpikhdfndnpidaa
