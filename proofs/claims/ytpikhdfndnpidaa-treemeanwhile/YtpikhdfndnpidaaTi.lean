/- The walk over a tree that passes over the parts whose box is not wanted: tell. -/
import Derived.Test.YtpikhdfndnpidaaTz
import Derived.Test.YtpikhdfndnpidaaSq
import Derived.Test.YtpikhdfndnpidaaBnd
set_option linter.unusedSimpArgs false
set_option linter.unusedVariables false
namespace Go.Proofs.Ytpikhdfndnpidaa
open Go.RowKit Go.Sort Go.Shelf
attribute [local go_sem] Oper.semAt_some wide_fn
attribute [local simp] wide_fn

abbrev Nd := Nat × Int × Q4
abbrev nEnc (x : Nd) : Array Value := #[.pointer (some ⟨x.1, 0, none⟩)]
abbrev iEnc (x : Nd) : Array Value := #[.int .u32 x.2.1]
abbrev aEnc (x : Nd) : Array Value := #[.int .u32 x.2.1, bv x.2.2]
namespace At
def tellN (f : Q4 → Bool) : At → List Nd
  | .leaf => []
  | .inner b i q l h => if f (PT.nd i q (er l) (er h)).ar then tellN f l ++ ((if f q then [(b, i, q)] else []) ++ tellN f h) else []
theorem tellN_er (f : Q4 → Bool) (t : At) : (t.tellN f).map (fun x => x.2) = t.er.tell f := by
  induction t using At.ind with
  | nil => rfl
  | nd b i q l h ih1 ih2 =>
    simp only [tellN, er, PT.tell]
    by_cases c : f (PT.nd i q l.er h.er).ar = true
    · rw [if_pos c, if_pos c, List.map_append, List.map_append, ih1, ih2]
      by_cases c2 : f q = true <;> simp [c2]
    · rw [if_neg c, if_neg c]; rfl
end At
theorem TrAt.mem {w : World} {f : Q4 → Bool} {x : Nd} : ∀ {t : At}, TrAt w t → x ∈ t.tellN f → ∃ l h r d, Bk w x.1 80 (nodeL x.2.1 x.2.2 l h r d)
  | .leaf, _, hx => by cases hx
  | .inner b i q l h, ⟨h1, h2, h3⟩, hx => by
    simp only [At.tellN] at hx
    split at hx
    · rcases List.mem_append.1 hx with hx | hx
      · exact TrAt.mem h2 hx
      · rcases List.mem_append.1 hx with hx | hx
        · split at hx
          · rw [List.mem_singleton] at hx
            subst hx
            exact ⟨_, _, _, _, h1⟩
          · cases hx
        · exact TrAt.mem h3 hx
    · cases hx
def isNode (w : World) (b : Nat) : Prop := ∃ l, Bk w b 80 l
theorem Kp.nk {p : Nat → Prop} {w W : World} (h : Kp p w W) (hp : ∀ b, isNode w b → p b) : Nk w W := fun b l k => k.same (h b (hp b ⟨l, k⟩))
theorem want39 (n bc : Nat) (b q : Q4) (W : World) (h : Bk W bc 36 [.int .i32 b.1, .int .i32 b.2.1, .int .i32 b.2.2.1, .int .i32 b.2.2.2]) :
    CallsIn Fence.wide n Try.prog 39 #[bv q, .pointer (some ⟨bc, 0, none⟩)] W fun e W' => e = .returned (.bool (meetQ q b)) ∧ Gr W W' := by
  refine callsIn_wide.2 ?_
  have M : Hid (∀ w, Calls Try.prog 40 #[bv q, bv b] w fun e w' => e = .returned (.bool (meetQ q b)) ∧ Gr w w') := fun w => meet_any _ _ _ _ _ _ _ _ w
  obtain ⟨V, hV⟩ : ∃ V, V = W.alloc (.cells #[.int .i32 q.1, .int .i32 q.2.1, .int .i32 q.2.2.1, .int .i32 q.2.2.2] 36) := ⟨_, rfl⟩
  have g : Gr W V := hV ▸ (Gr.refl _).alloc _
  have k : Bk V W.heap.size 36 [.int .i32 q.1, .int .i32 q.2.1, .int .i32 q.2.2.1, .int .i32 q.2.2.2] := hV ▸ Bk.new W 36 _
  obtain ⟨x0, x1, x2, x3⟩ := k.four
  obtain ⟨y0, y1, y2, y3⟩ := (h.gr g).four
  have G := hid0 g
  clear g k h
  generalize meetQ q b = mb at *
  dsimp only [bv, bx] at M
  go_enter Try.func39, Try.ntmps39
  go_upto_region 1 with fail
  rw [← hV]
  clear hV
  generalize W.heap.size = BE at *
  go_wp2_with (go_at_call 40; refine (M.out _).mono ?_; rintro e w1 ⟨rfl, g1⟩)
  go_ret
  exact ⟨rfl, G.out.trans g1⟩
theorem want45 (n : Nat) (q : Q4) (W : World) : CallsIn Fence.wide n Try.prog 45 #[bv q] W fun e W' => e = .returned (.bool true) ∧ Gr W W' := by
  refine callsIn_wide.2 ?_
  go_enter Try.func45, Try.ntmps45
  go_wp2
  go_ret
  exact ⟨rfl, (Gr.refl _).alloc _⟩
/-- How tell ends: all were told, or a round was the last. -/
def TellEnds (B : Nat) (J : (Nat → Prop) → List Nd → World → Prop) (Jx : List Nd → World → Prop) (L : List Nd) (p : Nat → Prop) (xs : List Nd) (W : World) (e : Ending) (W' : World) : Prop :=
  (e = .returned (.bool true) ∧ J p xs W' ∧ Kp p W W' ∧ W.heap.size ≤ W'.heap.size) ∨ (e = .returned (.bool false) ∧ ∃ u, u <+: L ∧ Jx u W')
end Go.Proofs.Ytpikhdfndnpidaa
