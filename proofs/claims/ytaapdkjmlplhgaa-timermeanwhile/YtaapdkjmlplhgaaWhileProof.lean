/- TimerMeanwhile, proved: for every list of dues the law returns true: while the Dues are walked, each round takes one, and the walk still tells what stood when it began; a walk made ahead and begun behind tells what stands then: nothing (beyond 1024 dues the law asks nothing); the argument reads afterwards as it read before. No conditions. -/
import Derived.Test.YtaapdkjmlplhgaaMw
import Derived.Test.YtaapdkjmlplhgaaFrame
namespace Go.Proofs.Ytaapdkjmlplhgaa
open Go.ChangeShapes Go.WideShapes Go.ChangeAt Go.RowKit Go.Joins

theorem while_long (ao : Option Addr) (n cap : Nat) (w : World) (hl : 1024 < n) : Calls Try.prog 5 #[.slice ao n cap] w fun e w' => e = .returned (.bool true) ∧ Below w.heap.size w w' := by
  have hl' : (n : Int) > 1024 := by omega
  have hB := hid0 (((Gr.refl w).alloc (.cells #[.bool true] 4)).below)
  go_enter Try.func5, Try.ntmps5
  go_wp2
  refine bodyPost_ret (v := .bool true) (by simp [results, Try.results5, go_sem]) rfl ⟨rfl, hB.out⟩
set_option maxRecDepth 100000 in
theorem while_lifted (os : Os) (started : os.Started) (H : Type) (enc : TypeId × Value → H) :
    ReturnsInHanded {} Try.checked os 5 .any (Rows.timerMeanwhileSpec.pre6 enc Try.prog Try.f5 Rows.timerMeanwhileRow.domain false) (Rows.timerMeanwhileSpec.post enc Try.prog Try.f5 false true false false) := by
  refine returnsInHanded_of_change (C := Try.checked) nown started (by kernel_rfl) Try.func5
    (ChangeSpec.witness6 (enc := enc) (C := Try.checked) false ⟨#[], #[.slice none 0 0], []⟩ 8 (by kernel_rfl) (by kernel_rfl) (by kernel_rfl) (by kernel_rfl)) ?_
  intro W base args ds gs before hval0 hW _ _
  have hval : ∀ (j : Nat) t v, Try.f5.params[j]? = some t → args[j]? = some v → Value.okWide Try.prog W .any base t v := hval0
  have hW' := hW
  obtain ⟨p, q, hA0, hV, rfl, _, _⟩ := hW
  have hA : DataW.TrodAll enc Try.prog W 0 (fun _ => true) true Try.f5.params.toList args.toList ds p := hA0
  rw [Try.params5] at hA hval
  obtain ⟨v0, d0, rfl, rfl, h0⟩ := trodAll_one hA
  obtain ⟨rfl, rfl⟩ := trodVars_none hV
  clear hA0 hval0
  simp only [List.append_nil] at hW'
  obtain ⟨a0, len0, cap0, rfl⟩ := okWide_slice Try.underlying36 (hval 0 36 v0 rfl rfl)
  have hlt : ∀ x ∈ p, x.block < W.heap.size := fun x hx => by simpa using hW'.lt x (by simpa using hx)
  have k0 : ∀ (W' : World), Below W.heap.size W W' → DataW.Trod enc Try.prog W' 0 (fun b => decide (b < W.heap.size)) true 36 (.slice a0 len0 cap0) d0 p :=
    fun W' hn => Below.trod m_laid (by kernel_rfl) (of_decide_eq_true (by kernel_rfl)) h0 hn (fun x hx => hlt x hx)
  obtain ⟨f0, hf0⟩ := h0
  obtain ⟨l, rfl, hP, hok⟩ := open_dues hf0
  have fin : Calls Try.prog 5 #[.slice a0 l.length cap0] W fun e W' => e = .returned (.bool true) ∧ Below W.heap.size W W' := by
    by_cases c : l.length ≤ 1024
    · exact callsIn_wide.1 (while_in a0 cap0 l W c hP hok)
    · exact while_long a0 l.length cap0 W (by omega)
  refine fin.mono fun e W' ⟨he, hb⟩ => ?_
  subst he
  exact ⟨_, rfl, _, _, _, [], _, [], hW', trodAll_mk1 (shut_bool Try.underlying4 _), trodAll_mk1 (k0 _ hb), rfl, hb.frame _, fun h => by cases h⟩

theorem while_holds : Rows.TimerMeanwhileSaid :=
  OpenClaim.holds_of_wide 5 Try.f5 rfl rfl rfl rfl rfl rfl rfl ⟨rfl, rfl, rfl, rfl, rfl⟩ rfl rfl rfl rfl rfl (by kernel_rfl) Try.func5 (by kernel_rfl)
    (of_decide_eq_true (by kernel_rfl)) (by unfold Func.isWrapper; first | (rw [if_pos (by decide +kernel)]; kernel_rfl) | (rw [if_neg (by decide +kernel)]; exact ⟨rfl, rfl⟩))
    (fun os started H enc _ => while_lifted os started H enc)
end Go.Proofs.Ytaapdkjmlplhgaa
