/- TimerSorts, proved: for every list of dues the law returns true: what is set in any order is taken in the order of dues, each once, and then none is left (beyond 1024 dues the law asks nothing); the argument reads afterwards as it read before. No conditions. -/
import Derived.Test.YtaapdkjmlplhgaaSo
import Derived.Test.YtaapdkjmlplhgaaFrame
namespace Go.Proofs.Ytaapdkjmlplhgaa
open Go.ChangeShapes Go.WideShapes Go.ChangeAt Go.RowKit Go.Joins

theorem sorts_long (ao : Option Addr) (n cap : Nat) (w : World) (hl : 1024 < n) : Calls Try.prog 4 #[.slice ao n cap] w fun e w' => e = .returned (.bool true) ∧ w' = w := by
  have hl' : (n : Int) > 1024 := by omega
  go_enter Try.func4, Try.ntmps4
  go_wp2
  go_ret
  exact ⟨rfl, rfl⟩
set_option maxRecDepth 100000 in
theorem sorts_lifted (os : Os) (started : os.Started) (H : Type) (enc : TypeId × Value → H) :
    ReturnsInHanded {} Try.checked os 4 .any (Rows.timerSortsSpec.pre6 enc Try.prog Try.f4 Rows.timerSortsRow.domain false) (Rows.timerSortsSpec.post enc Try.prog Try.f4 false true false false) := by
  refine returnsInHanded_of_change (C := Try.checked) nown started (by kernel_rfl) Try.func4
    (ChangeSpec.witness6 (enc := enc) (C := Try.checked) false ⟨#[], #[.slice none 0 0], []⟩ 8 (by kernel_rfl) (by kernel_rfl) (by kernel_rfl) (by kernel_rfl)) ?_
  intro W base args ds gs before hval0 hW _ _
  have hval : ∀ (j : Nat) t v, Try.f4.params[j]? = some t → args[j]? = some v → Value.okWide Try.prog W .any base t v := hval0
  have hW' := hW
  obtain ⟨p, q, hA0, hV, rfl, _, _⟩ := hW
  have hA : DataW.TrodAll enc Try.prog W 0 (fun _ => true) true Try.f4.params.toList args.toList ds p := hA0
  rw [Try.params4] at hA hval
  obtain ⟨v0, d0, rfl, rfl, h0⟩ := trodAll_one hA
  obtain ⟨rfl, rfl⟩ := trodVars_none hV
  clear hA0 hval0
  simp only [List.append_nil] at hW'
  obtain ⟨a0, len0, cap0, rfl⟩ := okWide_slice Try.underlying36 (hval 0 36 v0 rfl rfl)
  have hlt : ∀ x ∈ p, x.block < W.heap.size := fun x hx => by simpa using hW'.lt x (by simpa using hx)
  have k0 : ∀ (W' : World), Below W.heap.size W W' → DataW.Trod enc Try.prog W' 0 (fun b => decide (b < W.heap.size)) true 36 (.slice a0 len0 cap0) d0 p :=
    fun W' hn => Below.trod m_laid (by kernel_rfl) (of_decide_eq_true (by kernel_rfl)) h0 hn (fun x hx => hlt x hx)
  obtain ⟨f0, hf0⟩ := h0
  obtain ⟨l, rfl, hP, hok⟩ := open_dues hf0
  have fin : Calls Try.prog 4 #[.slice a0 l.length cap0] W fun e W' => e = .returned (.bool true) ∧ Below W.heap.size W W' := by
    by_cases c : l.length ≤ 1024
    · exact sorts_walk a0 cap0 l W c hP hok
    · exact (sorts_long a0 l.length cap0 W (by omega)).mono fun e W' ⟨h1, h2⟩ => ⟨h1, by rw [h2]; exact (Gr.refl W).below⟩
  refine fin.mono fun e W' ⟨he, hb⟩ => ?_
  subst he
  exact ⟨_, rfl, _, _, _, [], _, [], hW', trodAll_mk1 (shut_bool Try.underlying4 _), trodAll_mk1 (k0 _ hb), rfl, hb.frame _, fun h => by cases h⟩

theorem sorts_holds : Rows.TimerSortsSaid :=
  OpenClaim.holds_of_wide 4 Try.f4 rfl rfl rfl rfl rfl rfl rfl ⟨rfl, rfl, rfl, rfl, rfl⟩ rfl rfl rfl rfl rfl (by kernel_rfl) Try.func4 (by kernel_rfl)
    (of_decide_eq_true (by kernel_rfl)) (by unfold Func.isWrapper; first | (rw [if_pos (by decide +kernel)]; kernel_rfl) | (rw [if_neg (by decide +kernel)]; exact ⟨rfl, rfl⟩))
    (fun os started H enc _ => sorts_lifted os started H enc)
end Go.Proofs.Ytaapdkjmlplhgaa
