/- The law's step: any kind. -/
import Derived.Test.YtaapdkjmlplhgaaJb
import Derived.Test.YtaapdkjmlplhgaaSq2
set_option linter.unusedSimpArgs false
set_option linter.unusedVariables false
namespace Go.Proofs.Ytaapdkjmlplhgaa
open Go.RowKit Go.Sort Go.Shelf
attribute [local go_sem] Oper.semAt_some wide_fn
attribute [local simp] wide_fn

theorem Keeps.below {B : Nat} {a b : World} (g : Below a.heap.size a b) (hB : B ≤ a.heap.size) : Keeps B a b := ⟨g.mono hB, fun _ _ _ k _ _ _ => k.mono g k.lt⟩
set_option maxRecDepth 100000 in
set_option maxHeartbeats 4000000 in
theorem step_all {B : Nat} {w : World} {d h pb mb : Nat} {v : Value} {l : List Du} {m : Pf} {most r : Nat} {rv : Value} {L : List Du} (P : Pr B w d h pb mb v l m most r rv L) (x : Du) (hx : okD x) :
    Calls Try.prog 9 #[.pointer (some ⟨d, 0, none⟩), .pointer (some ⟨r, 0, none⟩), .agg #[.int .i64 8, .int .u32 x.1, .int .u32 x.2.1, .int .u32 x.2.2]] w fun e w' => e = .returned (.bool true) ∧ Keeps B w w' ∧ Both B d h pb mb most r w' := by
  have hBw := P.ds.size
  have hrw := P.rf.blk.lt
  obtain ⟨xa, xo, xf⟩ := x
  have g := ((Gr.refl w).alloc (.cells #[.int .i64 8, .int .u32 xa, .int .u32 xo, .int .u32 xf] 34)).alloc (.cells #[.int .u32 xa, .int .u32 xo, .int .u32 xf] 32)
  have P1 := hid0 (P.gr g)
  have K1 := hid0 (Keeps.gr g hBw)
  clear P g
  dsimp only
  go_enter Try.func9, Try.ntmps9
  have k5 := (Bk.new w 34 [.int .i64 8, .int .u32 xa, .int .u32 xo, .int .u32 xf]).alloc (.cells #[.int .u32 xa, .int .u32 xo, .int .u32 xf] 32)
  go_upto_region 2 with fail
  generalize World.alloc _ _ = W at *
  obtain ⟨b7, e7⟩ : ∃ b7, b7 = w.heap.size + 1 := ⟨_, rfl⟩
  obtain ⟨b5, e5⟩ : ∃ b5, b5 = w.heap.size := ⟨_, rfl⟩
  rw [← e7] at ⊢
  rw [← e5] at k5 ⊢
  clear e5 e7
  have y5 := k5.at 0
  simp only [List.getElem?_cons_zero] at y5
  clear hx
  have SM := hid0 (same_any P1.out)
  clear k5
  go_wp2_with fail
  refine SM.out.mono ?_
  rintro e v1 ⟨rfl, hb⟩
  have F := hid0 (K1.out.trans (Keeps.below hb P1.out.ds.size))
  have F2 := hid0 (show Both B d h pb mb most r v1 from ⟨_, _, _, _, _, P1.out.below hb⟩)
  clear SM hb K1 P1 y5
  go_wp2
  go_ret
  exact ⟨rfl, F.out, F2.out⟩
theorem step_any {B : Nat} {w : World} {d h pb mb : Nat} {most r : Nat} (P : Both B d h pb mb most r w) (k : Int) (x : Du) (hx : okD x) :
    Calls Try.prog 9 #[.pointer (some ⟨d, 0, none⟩), .pointer (some ⟨r, 0, none⟩), .agg #[.int .i64 k, .int .u32 x.1, .int .u32 x.2.1, .int .u32 x.2.2]] w fun e w' => e = .returned (.bool true) ∧ Keeps B w w' ∧ Both B d h pb mb most r w' := by
  obtain ⟨v, l, m, rv, L, P⟩ := P
  by_cases n1 : k = 1
  · subst n1; exact step_set P x hx
  by_cases n2 : k = 2
  · subst n2; exact step_cut P x hx
  by_cases n3 : k = 3
  · subst n3; exact step_cutOb P x hx
  by_cases n4 : k = 4
  · subst n4; exact step_cutFe P x hx
  by_cases n5 : k = 5
  · subst n5; exact step_first P x hx
  by_cases n6 : k = 6
  · subst n6; exact step_ready P x hx
  by_cases n7 : k = 7
  · subst n7; exact step_take P x hx
  by_cases n8 : k = 8
  · subst n8; exact step_all P x hx
  exact step_none P x hx k n1 n2 n3 n4 n5 n6 n7 n8
end Go.Proofs.Ytaapdkjmlplhgaa
