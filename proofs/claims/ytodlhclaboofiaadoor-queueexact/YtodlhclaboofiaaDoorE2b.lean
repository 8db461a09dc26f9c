/- The law's loop over its script: what its regions keep. -/
import Derived.Test.YtodlhclaboofiaaDoorE2
import Derived.Deep.RegionHeld3
set_option linter.unusedSimpArgs false
set_option linter.unusedVariables false
namespace Go.Proofs.YtodlhclaboofiaaDoor
open Go.RowKit Go.Sort

/-- The cells that a step's statements read. -/
def S4 (bp bq br b15 : Nat) (d0 d1 : Ids) (l : List Value) (X : World) : Prop :=
  Bk X bp 26 [.pointer (some ⟨d0.T1, 0, none⟩), .pointer (some ⟨d1.T1, 0, none⟩)] ∧ Bk X bq 28 [.pointer (some ⟨d0.T2, 0, none⟩), .pointer (some ⟨d1.T2, 0, none⟩)] ∧ Bk X br 30 [.pointer (some ⟨d0.R, 0, none⟩), .pointer (some ⟨d1.R, 0, none⟩)] ∧ Bk X b15 43 l
theorem S4.gr {bp bq br b15 : Nat} {d0 d1 : Ids} {l : List Value} {X Y : World} (h : S4 bp bq br b15 d0 d1 l X) (g : Gr X Y) : S4 bp bq br b15 d0 d1 l Y := ⟨h.1.gr g, h.2.1.gr g, h.2.2.1.gr g, h.2.2.2.gr g⟩
theorem S4.of {w0 W X : World} {bp bq br b15 : Nat} {d0 d1 : Ids} {x0 x1 : Sts} {l : List Value} (h : Duo w0 X bp bq br d0 d1 x0 x1) (k : Bk X b15 43 l) : S4 bp bq br b15 d0 d1 l X := ⟨h.kp, h.kq, h.kr, k⟩
theorem Chg.of_grown {A B : World} {row : Option Nat} (g : A.grownBy B row) : Chg (fun k => some k = row) A B := ⟨g.os, g.tape, g.output, g.size, fun k hk hn => g.block k hk hn⟩
theorem own_types {W : World} {base e size n : Nat} {v : Value} {xs : List Value} (h : W.ownsRow base e size v n xs) : Only [e] (fun k => some k = v.ownBlock) W := by
  obtain ⟨_, h⟩ := h
  intro b hb hlt
  rcases h with ⟨rfl, _⟩ | ⟨g, cap, cur, rfl, hg, hk, _⟩
  · cases hb
  · cases hb
    exact ⟨cur, e, _, hk, by simp⟩
theorem own_lo {W : World} {base e size n : Nat} {v : Value} {xs : List Value} (h : W.ownsRow base e size v n xs) (k : Nat) (hk : some k = v.ownBlock) : base ≤ k := by
  obtain ⟨_, h⟩ := h
  rcases h with ⟨rfl, _⟩ | ⟨g, cap, cur, rfl, hg, _⟩
  · cases hk
  · cases hk; exact hg
theorem own_below {w w' : World} {base e size n : Nat} {v : Value} {xs : List Value} (h : w.ownsRow base e size v n xs) (g : Below w.heap.size w w') : w'.ownsRow base e size v n xs := own_only (ts := []) (p := fun _ => False) h (fun _ h => h.elim) (.of_below g) (by simp)
theorem one_cell2 (W : World) (t : TypeId) (x y : Value) : ∀ j u, [x, y][j]? = some u → (W.alloc (.cells #[x, y] t)).cell? ((⟨W.heap.size, 0, none⟩ : Addr).add j) = some u := fun j u hu => by
  have h := Bk.new W t [x, y]
  have e : ∀ k, (⟨W.heap.size, 0, none⟩ : Addr).add k = ⟨W.heap.size, k, none⟩ := fun k => by unfold Addr.add; split <;> simp_all
  rw [e]
  exact (h.at j).trans hu
theorem Tryd.info51 : (Tryd.prog.info? 51).map (fun i => (i.zero, i.size, i.bytes)) = some (some (.agg #[.nilFunc, .slice none 0 0]), 2, 32) := by kernel_rfl
theorem flatK_app (ks : List Kp4) (x : Kp4) : flatK (ks ++ [x]) = flatK ks ++ [x.f, x.2.2.1] := by simp [flatK]
/-- What a round of the script's loop keeps. -/
structure Rnd (w W : World) (S0 bp bq br : Nat) (d0 d1 : Ids) (x0 x1 : Sts) (sv : Value) (ks : List Kp4) (k : Nat) : Prop where
  du : Duo w W bp bq br d0 d1 x0 x1
  ka : KpAll S0 W ks
  ow : W.ownsRow S0 51 2 sv ks.length (flatK ks)
  r0 : x0.s1.rf ≤ k
  r1 : x1.s1.rf ≤ k
  s0 : S0 ≤ W.heap.size
  b0 : d0.B1 < S0
  b1 : d1.B1 < S0
  ws : w.heap.size ≤ S0
section
variable {w W W' : World} {S0 bp bq br : Nat} {d0 d1 : Ids} {x0 x1 : Sts} {sv : Value} {ks : List Kp4} {k : Nat}
theorem Rnd.below (h : Rnd w W S0 bp bq br d0 d1 x0 x1 sv ks k) (g : Below W.heap.size W W') : Rnd w W' S0 bp bq br d0 d1 x0 x1 sv ks k := ⟨h.du.below g, h.ka.below g, own_below h.ow g, h.r0, h.r1, Nat.le_trans h.s0 g.size, h.b0, h.b1, h.ws⟩
theorem Rnd.gr (h : Rnd w W S0 bp bq br d0 d1 x0 x1 sv ks k) (g : Gr W W') : Rnd w W' S0 bp bq br d0 d1 x0 x1 sv ks k := h.below g.below
theorem Rnd.more (h : Rnd w W S0 bp bq br d0 d1 x0 x1 sv ks k) : Rnd w W S0 bp bq br d0 d1 x0 x1 sv ks (k + 1) := ⟨h.du, h.ka, h.ow, Nat.le_succ_of_le h.r0, Nat.le_succ_of_le h.r1, h.s0, h.b0, h.b1, h.ws⟩
theorem Rnd.does0 (h : Rnd w W S0 bp bq br d0 d1 x0 x1 sv ks k) {b15 : Nat} {l : List Value} (k15 : Bk W b15 43 l) (q : DoesOk w W d0.T1 d0.B1 d0.T2 d0.B2 d0.R x0.s1 W') : ∃ x0', Rnd w W' S0 bp bq br d0 d1 x0' x1 sv ks (k + 1) ∧ Bk W' b15 43 l := by
  obtain ⟨x0', du, hr, g⟩ := h.du.does0 q
  have o := h.du.a0.types
  exact ⟨x0', ⟨du, h.ka.ring h.du.a0 h.b0 g, own_only h.ow o g (by decide), by have := h.r0; omega, Nat.le_succ_of_le h.r1, Nat.le_trans h.s0 g.size, h.b0, h.b1, h.ws⟩, k15.only o g (by decide)⟩
theorem Rnd.does1 (h : Rnd w W S0 bp bq br d0 d1 x0 x1 sv ks k) {b15 : Nat} {l : List Value} (k15 : Bk W b15 43 l) (q : DoesOk w W d1.T1 d1.B1 d1.T2 d1.B2 d1.R x1.s1 W') : ∃ x1', Rnd w W' S0 bp bq br d0 d1 x0 x1' sv ks (k + 1) ∧ Bk W' b15 43 l := by
  obtain ⟨x1', du, hr, g⟩ := h.du.does1 q
  have o := h.du.a1.types
  exact ⟨x1', ⟨du, h.ka.ring h.du.a1 h.b1 g, own_only h.ow o g (by decide), Nat.le_succ_of_le h.r0, by have := h.r1; omega, Nat.le_trans h.s0 g.size, h.b0, h.b1, h.ws⟩, k15.only o g (by decide)⟩
/-- Something is kept. -/
theorem Rnd.keep (h : Rnd w W S0 bp bq br d0 d1 x0 x1 sv ks k) {y : Kp4} (hy : sKept W y.1 y.2.1 y.2.2.2 ∧ Lst W y.2.2.1 y.2.2.2 ∧ Vals y.2.2.2 ∧ y.2.2.2.length ≤ 65536 ∧ S0 ≤ y.2.1) {V : World} {sv' : Value} (g : (W.alloc (.cells #[y.f, y.2.2.1] 51)).grownBy V sv.ownBlock) (ho : V.ownsRow S0 51 2 sv' (ks.length + 1) (flatK ks ++ [y.f, y.2.2.1])) :
    (∀ l b15, Bk W b15 43 l → Bk V b15 43 l) ∧ Rnd w V S0 bp bq br d0 d1 x0 x1 sv' (ks ++ [y]) k := by
  have ga : Gr W (W.alloc (.cells #[y.f, y.2.2.1] 51)) := (Gr.refl W).alloc _
  have hR := h.gr ga
  have o := own_types hR.ow
  have c := Chg.of_grown g
  refine ⟨fun l b15 hb => (hb.gr ga).only o c (by decide), hR.du.row o c (fun k hk => Nat.le_trans h.ws (own_lo hR.ow k hk)), (KpAll.app (h.ka.below ga.below) ⟨hy.1.gr ga, hy.2.1.gr ga, hy.2.2⟩).row o c, ?_, h.r0, h.r1, Nat.le_trans hR.s0 g.size, h.b0, h.b1, h.ws⟩
  rw [List.length_append, flatK_app]
  exact ho
end
end Go.Proofs.YtodlhclaboofiaaDoor
