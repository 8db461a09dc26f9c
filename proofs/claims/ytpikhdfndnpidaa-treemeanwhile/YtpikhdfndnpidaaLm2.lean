/- A round of the law's loop, whether the Tree and the reference change in it or not. -/
import Derived.Test.YtpikhdfndnpidaaLm1
set_option linter.unusedSimpArgs false
set_option linter.unusedVariables false
namespace Go.Proofs.Ytpikhdfndnpidaa
open Go.RowKit Go.Sort Go.Shelf

/-- The blocks of the numbers that were told. -/
def GotB (b13 : Nat) (v : Value) (k : Nat) : Prop := k = b13 ∨ v.ownBlock = some k
theorem app_held {A w1 : World} {tmp : Obj} {v v' : Value} {b13 : Nat} (hg : (A.alloc tmp).grownBy w1 v.ownBlock) : Held (GotB b13 v) A (w1.setCell ⟨b13, 0, none⟩ v') := by
  refine ⟨by have := hg.size; simp at this; simp [World.setCell]; omega, fun k hk hn => ?_⟩
  exact keep_p (p := fun k => k < A.heap.size ∧ ¬ GotB b13 v k) (fun b hb => hb.1) (fun h => h.2 (.inl rfl)) (fun g e h => h.2 (.inr e)) hg k ⟨hk, hn⟩
theorem got_types {A : World} {b13 n k : Nat} {v : Value} {xs l : List Value} {ty : TypeId} (h1 : Boxed A b13 26 v) (h2 : A.ownsRow b13 32 1 v n xs) (hk : Bk A k ty l) (n1 : ty ≠ 26) (n2 : ty ≠ 32) : ¬ GotB b13 v k := by
  rintro (h | h)
  · subst h
    exact hk.ne (show Bk A k 26 [v] from h1) n1 rfl
  · exact row_ne h2 hk (fun e => n2 e.symm) h
theorem Mw.app {BS : Nat} {W1 A A1 : World} {T R b7 b8 b13 n : Nat} {t : At} {v : Value} {xs : List Value} (h : Mw BS W1 A T R b7 b8 t) (h1 : Boxed A b13 26 v) (h2 : A.ownsRow b13 32 1 v n xs) (h3 : ∀ g, v.ownBlock = some g → ¬ RefB A R g) (hh : Held (GotB b13 v) A A1) (hb : Below b13 A A1) (hbs : BS ≤ b13) : Mw BS W1 A1 T R b7 b8 t := by
  obtain ⟨m, kR⟩ := h.pr.ref.blk
  refine ⟨h.pr.held hh (got_types h1 h2 h.pr.one.blk (by decide) (by decide)) (got_types h1 h2 kR (by decide) (by decide)) (fun b ⟨l, hb⟩ => got_types h1 h2 hb (by decide) (by decide)) (fun b hr => ?_), h.k7.same (hh.2 b7 h.k7.lt (got_types h1 h2 h.k7 (by decide) (by decide))), h.k8.same (hh.2 b8 h.k8.lt (got_types h1 h2 h.k8 (by decide) (by decide))), h.bel.trans (hb.mono hbs)⟩
  rintro (e | e)
  · subst e
    exact h.pr.ref.notRow (show Bk A b 26 [v] from h1) (by decide) (by decide) hr
  · exact h3 b e hr
theorem mi_step {X W1 A A1 A5 : World} {BS T R b7 b8 b13 : Nat} {p : Nat → Prop} {pre : List Nd} {x : Nd} {v v' : Value} {t' t5 : At} (hI : MI X W1 BS T R b7 b8 b13 p pre A) (hp : ∀ b, p b → b < A.heap.size) (hX : X.heap.size = b13 + 1)
    (mw : Mw BS W1 A T R b7 b8 t') (mw1 : Mw BS W1 A1 T R b7 b8 t')
    (h1 : Boxed A b13 26 v) (h2 : A.ownsRow b13 32 1 v pre.length (pre.map idv)) (h3 : ∀ g, v.ownBlock = some g → ¬ p g ∧ ¬ RefB A R g)
    (hv2 : Boxed A1 b13 26 v') (hr2 : A1.ownsRow b13 32 1 v' (pre.length + 1) (pre.map idv ++ [.int .u32 x.2.1])) (hat : v'.ownBlock = v.ownBlock ∨ v'.ownBlock = some (A.heap.size + 1))
    (hH : Held (GotB b13 v) A A1) (dd : Dbl T R A1 A5) (mw5 : Mw BS W1 A5 T R b7 b8 t5) (few : pre.length + 1 ≤ 1000000) :
    KeepsFrom X.heap.size A A5 ∧ Kp p A A5 ∧ MI X W1 BS T R b7 b8 b13 p (pre ++ [x]) A5 := by
  obtain ⟨m, kR⟩ := mw.pr.ref.blk
  have eR : A1.heap[R]? = A.heap[R]? := hH.2 R kR.lt (got_types h1 h2 kR (by decide) (by decide))
  have rb : ∀ k, RefB A1 R k → RefB A R k := fun k hk => refB_same kR eR hk
  have hall : Held (fun k => GotB b13 v k ∨ k = T ∨ k = R ∨ RefB A R k) A A5 := ⟨Nat.le_trans hH.1 dd.size, fun k hk hn => by
    simp only [not_or] at hn
    rw [dd.keep k (Nat.lt_of_lt_of_le hk hH.1) hn.2.1 hn.2.2.1 (fun h => hn.2.2.2 (rb k h))]
    exact hH.2 k hk hn.1⟩
  have b1 : Bk A1 b13 26 [v'] := hv2
  have e13 : A5.heap[b13]? = A1.heap[b13]? := dd.keep b13 hv2.lt (b1.ne mw1.pr.one.blk (by decide)) (fun e => by
    have k1 := kR.same eR
    exact b1.ne k1 (by decide) e) (mw1.pr.ref.notRow b1 (by decide) (by decide))
  have hg' : ∀ g, v'.ownBlock = some g → ¬ p g ∧ ¬ RefB A1 R g ∧ g < A1.heap.size ∧ A5.heap[g]? = A1.heap[g]? := fun g e => by
    obtain ⟨l1, l2, cur, hc⟩ := own_lt hr2 e
    have hnB : ¬ RefB A1 R g := fun hb => by
      rcases hat with ha | ha
      · exact (h3 g (ha ▸ e)).2 (rb g hb)
      · rw [e] at ha
        have := (mw.pr.rowcells (rb g hb)).2.1
        simp at ha
        omega
    refine ⟨fun hpg => ?_, hnB, l1, dd.keep g l1 (fun e' => ?_) (fun e' => ?_) hnB⟩
    · rcases hat with ha | ha
      · exact (h3 g (ha ▸ e)).1 hpg
      · rw [e] at ha
        have := hp g hpg
        simp at ha
        omega
    · have hb := mw1.pr.one.blk
      rw [← e'] at hb
      unfold Bk at hb
      rw [hb] at hc
      cases hc
    · have hb := kR.same eR
      rw [← e'] at hb
      unfold Bk at hb
      rw [hb] at hc
      cases hc
  have hlen : (pre ++ [x]).length = pre.length + 1 := by simp
  have hmap : (pre ++ [x]).map idv = pre.map idv ++ [.int .u32 x.2.1] := by simp
  have hown5 : A5.ownsRow b13 32 1 v' (pre ++ [x]).length ((pre ++ [x]).map idv) := by
    rw [hlen, hmap]
    rcases hr2.2 with ⟨e1, h0⟩ | ⟨g1, cap, cur, e1, hb1, hc, hr⟩
    · omega
    · exact ⟨hr2.1, .inr ⟨g1, cap, cur, e1, hb1, ((hg' g1 (by rw [e1]; rfl)).2.2.2).trans hc, hr⟩⟩
  refine ⟨hall.from ?_ _, hall.kp hp ?_, ⟨t5, mw5⟩, ?_, ?_, ⟨v', e13.trans hv2, hown5, fun g e => ⟨(hg' g e).1, fun hb => ?_⟩⟩, hI.nb, hI.nT, hI.nR, ?_, by rw [hlen]; exact few, Nat.le_trans hI.size hall.1⟩
  · rintro k ((h | h) | h | h | h)
    · subst h; exact ⟨_, _, _, h1⟩
    · obtain ⟨_, _, cur, hc⟩ := own_lt h2 h; exact ⟨_, _, _, hc⟩
    · subst h; exact ⟨_, _, _, mw.pr.one.blk⟩
    · subst h; exact ⟨_, _, _, kR⟩
    · exact (mw.pr.rowcells h).1
  · rintro k ((h | h) | h | h | h)
    · subst h; exact hI.nb
    · exact (h3 k h).1
    · subst h; exact hI.nT
    · subst h; exact hI.nR
    · exact hI.nrow k h
  · intro k hk hT hR hn h13
    have hs := hI.size
    rw [hall.2 k (by omega) ?_]
    · exact hI.keep k hk hT hR hn h13
    · rintro ((h | h) | h | h | h)
      · exact h13 h
      · have := (own_lt h2 h).2.1; omega
      · exact hT h
      · exact hR h
      · exact (hI.rows k h).elim hn (fun h => by omega)
  · intro k hk
    rcases dd.rows k hk with h | h
    · exact hI.rows k (rb k h)
    · have := hH.1; have := hI.size; exact .inr (by omega)
  · rcases dd.rows g hb with h | h
    · exact (hg' g e).2.1 h
    · have := (hg' g e).2.2.1; omega
  · intro k hk hpk
    rcases dd.rows k hk with h | h
    · exact hI.nrow k (rb k h) hpk
    · have := hp k hpk; have := hH.1; omega
theorem Dbl.refl (T R : Nat) (A : World) : Dbl T R A A := ⟨fun _ _ _ _ _ => rfl, fun _ h => .inl h, Nat.le_refl _⟩
end Go.Proofs.Ytpikhdfndnpidaa
