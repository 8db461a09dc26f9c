/- TurnWhole, proved: for every two similarities and every number whose parts are whole and of a size of at most 2^16 (each given number modulo 65537) the law returns true: where the joined similarity brings the number is where the second one brings what the first one made of it; joined with the unit, on either side, a similarity is the same, and the unit leaves the number as it is; a point is turned by a quarter, and back; the argument reads afterwards as it read before. No conditions. -/
import Derived.Test.YtmjfphidcnjklaaW2
import Derived.Test.YtmjfphidcnjklaaFrame
import Derived.Laws.IdiomArrays
import Derived.Deep.Strs
namespace Go.Proofs.Ytmjfphidcnjklaa
open Go.ChangeShapes Go.WideShapes Go.ChangeAt Go.RowKit Go.Joins

theorem Try.cells74 : Try.prog.cellsOf 74 = 4 := by kernel_rfl
theorem Try.cells75 : Try.prog.cellsOf 75 = 2 := by kernel_rfl
theorem Try.cells77 : Try.prog.cellsOf 77 = 10 := by kernel_rfl
theorem array10 {α : Type} {cs : Array α} (h : cs.size = 10) : ∃ c0 c1 c2 c3 c4 c5 c6 c7 c8 c9, cs = #[c0, c1, c2, c3, c4, c5, c6, c7, c8, c9] := by
  obtain ⟨l⟩ := cs
  match l, h with
  | [c0, c1, c2, c3, c4, c5, c6, c7, c8, c9], _ => exact ⟨c0, c1, c2, c3, c4, c5, c6, c7, c8, c9, rfl⟩
abbrev wi (a : Int) : Prop := (Lit.int .i32 a).wf = true
section
variable {H : Type} {enc : TypeId × Value → H} {w : World} {base : Nat} {spare : Nat → Bool} {held : Bool}
abbrev i4D (H : Type) (a b c d : Int) : DataW H := .agg [.lit (.int .i32 a), .lit (.int .i32 b), .lit (.int .i32 c), .lit (.int .i32 d)]
abbrev i2D (H : Type) (a b : Int) : DataW H := .agg [.lit (.int .i32 a), .lit (.int .i32 b)]
set_option maxRecDepth 100000 in
theorem trod_i4 {fuel : Nat} {c0 c1 c2 c3 : Value} {z : DataW H × List MemPlace} (h : DataW.trod enc Try.prog w base spare held fuel 74 [c0, c1, c2, c3] = some z) :
    ∃ a b c d, [c0, c1, c2, c3] = [Value.int .i32 a, .int .i32 b, .int .i32 c, .int .i32 d] ∧ z = (i4D H a b c d, []) ∧ wi a ∧ wi b ∧ wi c ∧ wi d := by
  obtain ⟨y0, y1, y2, y3, n, hx, h0, h1, h2, h3⟩ := trod_array4 Try.underlying74 Try.cells21 h
  obtain ⟨a, e0, rfl, w0⟩ := DataW.trod_int Try.underlying21 h0
  obtain ⟨b, e1, rfl, w1⟩ := DataW.trod_int Try.underlying21 h1
  obtain ⟨c, e2, rfl, w2⟩ := DataW.trod_int Try.underlying21 h2
  obtain ⟨d, e3, rfl, w3⟩ := DataW.trod_int Try.underlying21 h3
  simp only [List.cons.injEq, and_true] at e0 e1 e2 e3
  subst e0 e1 e2 e3
  exact ⟨a, b, c, d, rfl, by simpa using hx, w0, w1, w2, w3⟩
set_option maxRecDepth 100000 in
theorem trod_i2 {fuel : Nat} {c0 c1 : Value} {z : DataW H × List MemPlace} (h : DataW.trod enc Try.prog w base spare held fuel 75 [c0, c1] = some z) :
    ∃ a b, [c0, c1] = [Value.int .i32 a, .int .i32 b] ∧ z = (i2D H a b, []) ∧ wi a ∧ wi b := by
  obtain ⟨xs, m, _, hx, _, hl, hi⟩ := DataW.trod_array Try.underlying75 h
  obtain ⟨y0, y1, rfl⟩ := list2 hl
  have h0 := hi 0 (by decide)
  have h1 := hi 1 (by decide)
  simp [Try.cells21] at h0 h1
  obtain ⟨a, e0, rfl, w0⟩ := DataW.trod_int Try.underlying21 h0
  obtain ⟨b, e1, rfl, w1⟩ := DataW.trod_int Try.underlying21 h1
  simp only [List.cons.injEq, and_true] at e0 e1
  subst e0 e1
  exact ⟨a, b, rfl, by simpa using hx, w0, w1⟩
set_option maxRecDepth 100000 in
theorem mk_i4 {a b c d : Int} (h0 : wi a) (h1 : wi b) (h2 : wi c) (h3 : wi d) : DataW.trod enc Try.prog w base spare held 2 74 [.int .i32 a, .int .i32 b, .int .i32 c, .int .i32 d] = some (i4D H a b c d, []) := by
  have r4 : List.range 4 = [0, 1, 2, 3] := rfl
  simp [DataW.trod, Try.underlying74, Try.cells74, r4, Try.cells21, Try.underlying21, h0, h1, h2, h3]
set_option maxRecDepth 100000 in
theorem mk_i2 {a b : Int} (h0 : wi a) (h1 : wi b) : DataW.trod enc Try.prog w base spare held 2 75 [.int .i32 a, .int .i32 b] = some (i2D H a b, []) := by
  have r2 : List.range 2 = [0, 1] := rfl
  simp [DataW.trod, Try.underlying75, Try.cells75, r2, Try.cells21, Try.underlying21, h0, h1]
abbrev tenD (H : Type) (m0 m1 m2 m3 n0 n1 n2 n3 z0 z1 : Int) : DataW H := .agg [i4D H m0 m1 m2 m3, i4D H n0 n1 n2 n3, i2D H z0 z1]
set_option maxRecDepth 100000 in
theorem open_ten {r : Reach} {b0 : Nat} {v : Value} {d : DataW H} {p : List MemPlace} (hv : Value.okWide Try.prog w r b0 77 v) (h : DataW.Trod enc Try.prog w base spare held 77 v d p) :
    ∃ m0 m1 m2 m3 n0 n1 n2 n3 z0 z1, v = tenV m0 m1 m2 m3 n0 n1 n2 n3 z0 z1 ∧ d = tenD H m0 m1 m2 m3 n0 n1 n2 n3 z0 z1 ∧ p = [] ∧ (wi m0 ∧ wi m1 ∧ wi m2 ∧ wi m3) ∧ (wi n0 ∧ wi n1 ∧ wi n2 ∧ wi n3) ∧ wi z0 ∧ wi z1 := by
  obtain ⟨cs, rfl, hsz⟩ := okWide_struct Try.underlying77 hv
  obtain ⟨c0, c1, c2, c3, c4, c5, c6, c7, c8, c9, rfl⟩ := array10 (hsz.trans Try.cells77)
  obtain ⟨fuel, hf⟩ := h
  obtain ⟨y0, y1, y2, n, hx, _, h0, h1, h2⟩ := Go.Deep.trod_struct3 Try.underlying77 hf
  simp only [Value.cells, Try.cells74, Try.cells75, List.drop_zero, List.take_succ_cons, List.take_zero, List.drop_succ_cons] at h0 h1 h2
  obtain ⟨m0, m1, m2, m3, e0, rfl, w0⟩ := trod_i4 h0
  obtain ⟨n0, n1, n2, n3, e1, rfl, w1⟩ := trod_i4 h1
  obtain ⟨z0, z1, e2, rfl, w2⟩ := trod_i2 h2
  simp only [List.cons.injEq, and_true] at e0 e1 e2
  obtain ⟨rfl, rfl, rfl, rfl⟩ := e0
  obtain ⟨rfl, rfl, rfl, rfl⟩ := e1
  obtain ⟨rfl, rfl⟩ := e2
  simp only [Prod.mk.injEq, List.append_nil] at hx
  exact ⟨m0, m1, m2, m3, n0, n1, n2, n3, z0, z1, rfl, hx.1, hx.2, w0, w1, w2⟩
set_option maxRecDepth 100000 in
theorem shut_ten {m0 m1 m2 m3 n0 n1 n2 n3 z0 z1 : Int} (h0 : wi m0 ∧ wi m1 ∧ wi m2 ∧ wi m3) (h1 : wi n0 ∧ wi n1 ∧ wi n2 ∧ wi n3) (h2 : wi z0 ∧ wi z1) :
    DataW.Trod enc Try.prog w base spare held 77 (tenV m0 m1 m2 m3 n0 n1 n2 n3 z0 z1) (tenD H m0 m1 m2 m3 n0 n1 n2 n3 z0 z1) [] := by
  have ts := Go.Deep.trod_struct3_mk (enc := enc) (w := w) (base := base) (spare := spare) (held := held) (n := 2) (cs := [.int .i32 m0, .int .i32 m1, .int .i32 m2, .int .i32 m3, .int .i32 n0, .int .i32 n1, .int .i32 n2, .int .i32 n3, .int .i32 z0, .int .i32 z1])
    (y0 := (i4D H m0 m1 m2 m3, [])) (y1 := (i4D H n0 n1 n2 n3, [])) (y2 := (i2D H z0 z1, [])) Try.underlying77 (by simp [Try.cells77])
    (by simpa [Try.cells74] using mk_i4 h0.1 h0.2.1 h0.2.2.1 h0.2.2.2) (by simpa [Try.cells74] using mk_i4 h1.1 h1.2.1 h1.2.2.1 h1.2.2.2) (by simpa [Try.cells75] using mk_i2 h2.1 h2.2)
  exact ⟨_, by simpa [Value.cells] using ts⟩
end

set_option maxRecDepth 100000 in
theorem whole_lifted (os : Os) (started : os.Started) (H : Type) (enc : TypeId × Value → H) :
    ReturnsInHanded {} Try.checked os 6 .any (Rows.turnWholeSpec.pre6 enc Try.prog Try.f6 Rows.turnWholeRow.domain false) (Rows.turnWholeSpec.post enc Try.prog Try.f6 false true false false) := by
  refine returnsInHanded_of_change (C := Try.checked) own started (by kernel_rfl) Try.func6
    (ChangeSpec.witness6 (enc := enc) (C := Try.checked) false ⟨#[], #[tenV 0 0 0 0 0 0 0 0 0 0], []⟩ 8 (by kernel_rfl) (by kernel_rfl) (by kernel_rfl) (by kernel_rfl)) ?_
  intro W base args ds gs before hval0 hW _ _
  have hval : ∀ (j : Nat) t v, Try.f6.params[j]? = some t → args[j]? = some v → Value.okWide Try.prog W .any base t v := hval0
  have hW' := hW
  obtain ⟨p, q, hA0, hV, rfl, _, _⟩ := hW
  have hA : DataW.TrodAll enc Try.prog W 0 (fun _ => true) true Try.f6.params.toList args.toList ds p := hA0
  rw [Try.params6] at hA hval
  obtain ⟨v0, d0, rfl, rfl, h0⟩ := trodAll_one hA
  obtain ⟨rfl, rfl⟩ := trodVars_none hV
  obtain ⟨m0, m1, m2, m3, n0, n1, n2, n3, z0, z1, rfl, rfl, rfl, w0, w1, w2⟩ := open_ten (hval 0 77 v0 rfl rfl) h0
  clear hA0 hval0
  simp only [List.append_nil] at hW'
  refine (whole_walk m0 m1 m2 m3 n0 n1 n2 n3 z0 z1 W).mono fun e W' ⟨he, hg⟩ => ?_
  subst he
  exact ⟨_, rfl, _, _, _, [], [], [], hW', trodAll_mk1 (shut_bool Try.underlying4 _), trodAll_mk1 (shut_ten w0 w1 w2), rfl,
    hg.below.frame _, fun h => by cases h⟩

theorem whole_holds : Rows.TurnWholeSaid :=
  OpenClaim.holds_of_wide 6 Try.f6 rfl rfl rfl rfl rfl rfl rfl ⟨rfl, rfl, rfl, rfl, rfl⟩ rfl rfl rfl rfl rfl (by kernel_rfl) Try.func6 (by kernel_rfl)
    (of_decide_eq_true (by kernel_rfl)) (by unfold Func.isWrapper; first | (rw [if_pos (by decide +kernel)]; kernel_rfl) | (rw [if_neg (by decide +kernel)]; exact ⟨rfl, rfl⟩))
    (fun os started H enc _ => whole_lifted os started H enc)
end Go.Proofs.Ytmjfphidcnjklaa
