/- TreePlays, proved: for every list of calls the law returns true: a tree and the document's list answer every call alike, have as many boxes behind every call, the tree is no deeper than twice the binary digits of their number, and at the end both tell the same (beyond 4096 calls the law asks nothing); the argument reads afterwards as it read before. No conditions. -/
import Derived.Test.YtpikhdfndnpidaaLp
import Derived.Test.YtpikhdfndnpidaaFrame2
namespace Go.Proofs.Ytpikhdfndnpidaa
open Go.ChangeShapes Go.WideShapes Go.ChangeAt Go.RowKit Go.Joins

section
variable {H : Type} {enc : TypeId × Value → H} {w : World} {base : Nat} {spare : Nat → Bool} {held : Bool}
set_option maxRecDepth 100000 in
theorem open_steps {fuel : Nat} {a0 : Option Addr} {len cap : Nat} {z : DataW H × List MemPlace} (hf : DataW.trod enc Try.prog w base spare held fuel 22 (Value.slice a0 len cap).cells.toList = some z) :
    ∃ l : List St, l.length = len ∧ Steps w a0 l := by
  rcases Go.Deep.open_slice Try.underlying22 hf with ⟨hcs, hx⟩ | ⟨a, len', cap', m, n, D, Pl, hcs, _, hl, hm, hmm, hx, hc⟩
  · simp [Value.cells] at hcs
    obtain ⟨rfl, rfl, rfl⟩ := hcs
    exact ⟨[], rfl, fun k x hk => by cases hk⟩
  · simp [Value.cells] at hcs
    obtain ⟨rfl, rfl, rfl⟩ := hcs
    have hm' : len ≤ m := by rw [hmm]; split <;> omega
    rw [Try.cells38] at hc
    obtain ⟨X, hX⟩ := Go.Deep.choose_lt (α := St) (n := m) (p := fun i x => ∀ j u, (St.l x)[j]? = some u → w.cell? ((a.add (i * 11)).add j) = some u) (fun i hi => by
      obtain ⟨cs', h1, h2⟩ := hc i hi
      obtain ⟨_, _, hcell⟩ := World.cells?_some h1
      obtain ⟨kd, id, p, q, r, s, px, py, qx, qy, nn, rfl, _, _⟩ := trod_step h2
      refine ⟨(kd, id, (p, q, r, s), (px, py), (qx, qy), nn), fun j u hu => ?_⟩
      have hj : j < 11 := by
        have := (List.getElem?_eq_some_iff.1 hu).1
        simpa [St.l, stL] using this
      have h3 := hcell j (by omega)
      have h4 : (stL kd id p q r s px py qx qy nn)[j]? = some u := hu
      rw [h3]
      simpa using h4)
    refine ⟨(List.range len).map X, by simp, fun k x hk => ?_⟩
    have hk' : k < len := by have := (List.getElem?_eq_some_iff.1 hk).1; simpa using this
    have ex : X k = x := by simpa [hk'] using hk
    obtain ⟨b, off, spot⟩ := a
    have c := hX k (by omega)
    have hspot : spot = none := by simpa [Addr.add] using World.cell?_spot (hX 0 (by omega) 0 _ rfl)
    subst hspot
    rw [ex] at c
    refine ⟨b, off, rfl, fun j u hu => ?_⟩
    have := c j u hu
    simp only [add_none] at this
    exact this
end
set_option maxRecDepth 100000 in
theorem plays_lifted (os : Os) (started : os.Started) (H : Type) (enc : TypeId × Value → H) :
    ReturnsInHanded {} Try.checked os 3 .any (Rows.treePlaysSpec.pre6 enc Try.prog Try.f3 Rows.treePlaysRow.domain false) (Rows.treePlaysSpec.post enc Try.prog Try.f3 false true false false) := by
  refine returnsInHanded_of_change (C := Try.checked) own started (by kernel_rfl) Try.func3
    (ChangeSpec.witness6 (enc := enc) (C := Try.checked) false ⟨#[], #[.slice none 0 0], []⟩ 8 (by kernel_rfl) (by kernel_rfl) (by kernel_rfl) (by kernel_rfl)) ?_
  intro W base args ds gs before hval0 hW _ _
  have hval : ∀ (j : Nat) t v, Try.f3.params[j]? = some t → args[j]? = some v → Value.okWide Try.prog W .any base t v := hval0
  have hW' := hW
  obtain ⟨p, q, hA0, hV, rfl, _, _⟩ := hW
  have hA : DataW.TrodAll enc Try.prog W 0 (fun _ => true) true Try.f3.params.toList args.toList ds p := hA0
  rw [Try.params3] at hA hval
  obtain ⟨v0, d0, rfl, rfl, h0⟩ := trodAll_one hA
  obtain ⟨rfl, rfl⟩ := trodVars_none hV
  clear hA0 hval0
  simp only [List.append_nil] at hW'
  obtain ⟨a0, len0, cap0, rfl⟩ := okWide_slice Try.underlying22 (hval 0 22 v0 rfl rfl)
  have hlt : ∀ x ∈ p, x.block < W.heap.size := fun x hx => by simpa using hW'.lt x (by simpa using hx)
  have k0 : ∀ (W' : World), Below W.heap.size W W' → DataW.Trod enc Try.prog W' 0 (fun b => decide (b < W.heap.size)) true 22 (.slice a0 len0 cap0) d0 p :=
    fun W' hn => Below.trod laidOut (by kernel_rfl) (of_decide_eq_true (by kernel_rfl)) h0 hn (fun x hx => hlt x hx)
  obtain ⟨f0, hf0⟩ := h0
  obtain ⟨l, rfl, hP⟩ := open_steps hf0
  refine (plays_walk l a0 cap0 W hP).mono fun e W' ⟨he, hb⟩ => ?_
  subst he
  exact ⟨_, rfl, _, _, _, [], _, [], hW', trodAll_mk1 (shut_bool Try.underlying4 _), trodAll_mk1 (k0 _ hb), rfl, hb.frame _, fun h => by cases h⟩

theorem plays_holds : Rows.TreePlaysSaid :=
  OpenClaim.holds_of_wide 3 Try.f3 rfl rfl rfl rfl rfl rfl rfl ⟨rfl, rfl, rfl, rfl, rfl⟩ rfl rfl rfl rfl rfl (by kernel_rfl) Try.func3 (by kernel_rfl)
    (of_decide_eq_true (by kernel_rfl)) (by unfold Func.isWrapper; first | (rw [if_pos (by decide +kernel)]; kernel_rfl) | (rw [if_neg (by decide +kernel)]; exact ⟨rfl, rfl⟩))
    (fun os started H enc _ => plays_lifted os started H enc)
end Go.Proofs.Ytpikhdfndnpidaa
