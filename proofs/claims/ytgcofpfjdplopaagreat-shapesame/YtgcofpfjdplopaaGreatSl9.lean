/- The law ShapeSame, walked. -/
import Derived.Test.YtgcofpfjdplopaaGreatTx9
import Derived.Test.YtgcofpfjdplopaaGreatWm9
set_option linter.unusedSimpArgs false
namespace Go.Proofs.YtgcofpfjdplopaaGreat
open Go.RowKit Go.Sort

/-- What a twin's lists are. -/
structure Td (v : Hole) (H : List Hole) (g : Nat) (ho' : Option Addr) (H' : List Hole) (w : World) : Prop where
  n : H'.length = H.length
  m : Mkd w g v.2.2
  hs : Hls w ho' H'
  hm : ∀ i, i < H'.length → Made w (hAt H' i) (hAt H i).2.2
theorem Td.below {v : Hole} {H : List Hole} {g : Nat} {ho' : Option Addr} {H' : List Hole} {w w' : World} (h : Td v H g ho' H' w) (q : Below w.heap.size w w') : Td v H g ho' H' w' :=
  ⟨h.n, h.m.below q, h.hs.mono q, fun i hi => by obtain ⟨gi, e, m⟩ := h.hm i hi; exact ⟨gi, e, m.below q⟩⟩
theorem Td.lst {v : Hole} {H : List Hole} {g : Nat} {ho' : Option Addr} {H' : List Hole} {w : World} (h : Td v H g ho' H' w) : lst H' = Proofs.YtgcofpfjdplopaaGreat.lst H := lst_ext h.n fun j hj => by
  obtain ⟨gi, e, _⟩ := h.hm j hj
  rw [e]
theorem hAt_out {H : List Hole} {i : Nat} (h : ¬ i < H.length) : hAt H i = (none, 0, []) := by unfold hAt; rw [List.getD_eq_getElem?_getD, List.getElem?_eq_none (by omega)]; rfl
theorem Td.few {v : Hole} {H : List Hole} {g : Nat} {ho' : Option Addr} {H' : List Hole} {w : World} (h : Td v H g ho' H' w) (hF : Few H) : Few H' := fun i => by
  by_cases hi : i < H'.length
  · obtain ⟨gi, e, _⟩ := h.hm i hi
    rw [e]; exact hF i
  · rw [hAt_out hi]; simp
/-- A shape that was handed in. -/
structure Sh (v : Hole) (ho : Option Addr) (H : List Hole) (w : World) : Prop where
  l : v.2.2.length ≤ 17592186043904
  f : Few H
  n : H.length ≤ 5864062014634
  p : Pts w v.1 v.2.2
  q : Hls w ho H
theorem Sh.below {v : Hole} {ho : Option Addr} {H : List Hole} {w w' : World} (h : Sh v ho H w) (q : Below w.heap.size w w') : Sh v ho H w' := ⟨h.l, h.f, h.n, h.p.mono q, h.q.mono q⟩
abbrev tv (g : Nat) (v : Hole) : Hole := (some ⟨g, 0, none⟩, v.2.2.length + 7, v.2.2)
theorem Td.sh {v : Hole} {H : List Hole} {ho0 : Option Addr} {g : Nat} {ho' : Option Addr} {H' : List Hole} {w w0 : World} (h : Td v H g ho' H' w) (s : Sh v ho0 H w0) : Sh (tv g v) ho' H' w :=
  ⟨s.l, h.few s.f, by rw [h.n]; exact s.n, h.m.pts, h.hs⟩
theorem twin_td {k s : Int} {v : Hole} {ho : Option Addr} {hc : Nat} {H : List Hole} {w : World} (h : Sh v ho H w) : Calls Tryz.prog 9 #[shV k v ho H.length hc s] w fun e w' => ∃ g ho' hc' H', e = .returned (shV k (tv g v) ho' H'.length hc' s) ∧ Td v H g ho' H' w' ∧ Below w.heap.size w w' := by
  refine (twin_any k s v ho hc H h.l h.f h.n w h.p h.q).mono ?_
  rintro e w' ⟨g, ho', hc', H', rfl, a, b, c, d, q⟩
  exact ⟨g, ho', hc', H', rfl, ⟨a, d, c, b⟩, q⟩
theorem same_sh {k s k' s' : Int} {v v' : Hole} {ho ho' : Option Addr} {hc hc' : Nat} {H H' : List Hole} {w : World} (h : Sh v ho H w) (h' : Sh v' ho' H' w) : Calls Tryz.prog 22 #[shV k v ho H.length hc s, shV k' v' ho' H'.length hc' s'] w fun e w' => e = .returned (.bool (sameB k s v H k' s' v' H')) ∧ Gr w w' :=
  same_any k s k' s' v v' ho ho' hc hc' H H' h.l h.f w (by have := h.n; omega) h.p h'.p h.q h'.q
theorem rSame_sh {k s k' s' : Int} {v v' : Hole} {ho ho' : Option Addr} {hc hc' : Nat} {H H' : List Hole} {w : World} (h : Sh v ho H w) (h' : Sh v' ho' H' w) : Calls Tryz.prog 23 #[shV k v ho H.length hc s, shV k' v' ho' H'.length hc' s'] w fun e w' => e = .returned (.bool (sameB k s v H k' s' v' H')) ∧ Gr w w' :=
  rSame_any k s k' s' v v' ho ho' hc hc' H H' h.l h.f w (by have := h.n; omega) h.p h'.p h.q h'.q
theorem sameB_refl {k s : Int} {v v' : Hole} {H H' : List Hole} (h : v.2.2 = v'.2.2) (hl : lst H = lst H') : sameB k s v H k s v' H' = true := by unfold sameB; rw [h, hl]; simp
theorem sameB_td {k s k' s' : Int} {v v' u u' : Hole} {H H' G G' : List Hole} (h : u.2.2 = v.2.2) (h' : u'.2.2 = v'.2.2) (hl : lst G = lst H) (hl' : lst G' = lst H') : sameB k s u G k' s' u' G' = sameB k s v H k' s' v' H' := by unfold sameB; rw [h, h', hl, hl']

set_option maxRecDepth 20000 in
set_option maxHeartbeats 16000000 in
theorem same_walk (k s k' s' : Int) (v v' : Hole) (ho ho' : Option Addr) (hc hc' : Nat) (H H' : List Hole) (w : World) (hA : Sh v ho H w) (hB : Sh v' ho' H' w) :
    Calls Tryz.prog 4 #[shV k v ho H.length hc s, shV k' v' ho' H'.length hc' s'] w fun e w' => e = .returned (.bool true) ∧ Below w.heap.size w w' := by
  obtain ⟨kA, kB, g0⟩ := two_new w 26 26 (shC k v ho H.length hc s) (shC k' v' ho' H'.length hc' s')
  go_enter Tryz.func4, Tryz.ntmps4
  go_upto_region 1 with fail
  generalize (w.alloc (.cells #[.int .u8 k, hv v, .slice ho H.length hc, .int .i32 s] 26)).alloc (.cells #[.int .u8 k', hv v', .slice ho' H'.length hc', .int .i32 s'] 26) = W at *
  have c0 := g0.below
  have SA : Hid (∀ W', Below W.heap.size W W' → Sh v ho H W') := fun W' q => (hA.below c0).below q
  have SB : Hid (∀ W', Below W.heap.size W W' → Sh v' ho' H' W') := fun W' q => (hB.below c0).below q
  have TA : Hid (∀ W', Below W.heap.size W W' → Calls Tryz.prog 9 #[shV k v ho H.length hc s] W' fun e w' => ∃ g ho1 hc1 H1, e = .returned (shV k (tv g v) ho1 H1.length hc1 s) ∧ Td v H g ho1 H1 w' ∧ Below W'.heap.size W' w') := fun W' q => twin_td (SA.out W' q)
  have TB : Hid (∀ W', Below W.heap.size W W' → Calls Tryz.prog 9 #[shV k' v' ho' H'.length hc' s'] W' fun e w' => ∃ g ho1 hc1 H1, e = .returned (shV k' (tv g v') ho1 H1.length hc1 s') ∧ Td v' H' g ho1 H1 w' ∧ Below W'.heap.size W' w') := fun W' q => twin_td (SB.out W' q)
  have RS : Hid (∀ W', Below W.heap.size W W' → Calls Tryz.prog 23 #[shV k v ho H.length hc s, shV k' v' ho' H'.length hc' s'] W' fun e w' => e = .returned (.bool (sameB k s v H k' s' v' H')) ∧ Gr W' w') := fun W' q => rSame_sh (SA.out W' q) (SB.out W' q)
  have S1 : Hid (∀ W' g1 ho1 hc1 H1 g2 ho2 hc2 H2, Td v H g1 ho1 H1 W' → Td v' H' g2 ho2 H2 W' → Calls Tryz.prog 22 #[shV k (tv g1 v) ho1 H1.length hc1 s, shV k' (tv g2 v') ho2 H2.length hc2 s'] W' fun e w' => e = .returned (.bool (sameB k s v H k' s' v' H')) ∧ Gr W' w') := fun W' g1 ho1 hc1 H1 g2 ho2 hc2 H2 t1 t2 => by
    have := same_sh (k := k) (s := s) (k' := k') (s' := s') (hc := hc1) (hc' := hc2) (t1.sh hA) (t2.sh hB)
    rwa [sameB_td (u := tv g1 v) (u' := tv g2 v') (v := v) (v' := v') (H := H) (H' := H') rfl rfl t1.lst t2.lst] at this
  have S2 : Hid (∀ W' g1 ho1 hc1 H1, Below W.heap.size W W' → Td v H g1 ho1 H1 W' → Calls Tryz.prog 22 #[shV k v ho H.length hc s, shV k (tv g1 v) ho1 H1.length hc1 s] W' fun e w' => e = .returned (.bool true) ∧ Gr W' w') := fun W' g1 ho1 hc1 H1 q t1 => by
    have := same_sh (k := k) (s := s) (k' := k) (s' := s) (hc := hc) (hc' := hc1) (SA.out W' q) (t1.sh hA)
    rwa [sameB_refl (v := v) (v' := tv g1 v) rfl t1.lst.symm] at this
  have S3 : Hid (∀ W' g1 ho1 hc1 H1, Below W.heap.size W W' → Td v' H' g1 ho1 H1 W' → Calls Tryz.prog 22 #[shV k' (tv g1 v') ho1 H1.length hc1 s', shV k' v' ho' H'.length hc' s'] W' fun e w' => e = .returned (.bool true) ∧ Gr W' w') := fun W' g1 ho1 hc1 H1 q t1 => by
    have := same_sh (k := k') (s := s') (k' := k') (s' := s') (hc := hc1) (hc' := hc') (t1.sh hB) (SB.out W' q)
    rwa [sameB_refl (v := tv g1 v') (v' := v') rfl t1.lst] at this
  obtain ⟨x0, x1, x2, x3⟩ := four_below kA
  obtain ⟨y0, y1, y2, y3⟩ := four_below kB
  clear hA hB SA SB
  generalize sameB k s v H k' s' v' H' = R at *
  go_region_held3 (Below W.heap.size W)
    (first
      | exact (Below.refl _ _).drew
      | assumption
      | exact q9
      | exact q8
      | exact q7
      | exact q6
      | exact q5
      | exact q4
      | exact q3
      | exact q2
      | exact q1)
    (first
      | (go_at_call 13; refine (works_any _).mono ?_; rintro e w9 ⟨rfl, g9⟩; have q9 : Below W.heap.size W w9 := q8.trans (g9.below.mono q8.size))
      | (go_at_call 22; refine (S3.out _ _ _ _ _ q7 d7).mono ?_; rintro e w8 ⟨rfl, g8⟩; have q8 : Below W.heap.size W w8 := q7.trans (g8.below.mono q7.size))
      | (go_at_call_of 9 ho'; refine (TB.out _ q6).mono ?_; rintro e w7 ⟨n7, ho7, hc7, H7, rfl, d7, p7⟩; have q7 : Below W.heap.size W w7 := q6.trans (p7.mono q6.size))
      | (go_at_call 22; refine (S2.out _ _ _ _ _ q5 d5).mono ?_; rintro e w6 ⟨rfl, g6⟩; have q6 : Below W.heap.size W w6 := q5.trans (g6.below.mono q5.size))
      | (go_at_call_of 9 ho; refine (TA.out _ q4).mono ?_; rintro e w5 ⟨n5, ho5, hc5, H5, rfl, d5, p5⟩; have q5 : Below W.heap.size W w5 := q4.trans (p5.mono q4.size))
      | (go_at_call 23; refine (RS.out _ q3).mono ?_; rintro e w4 ⟨rfl, g4⟩; have q4 : Below W.heap.size W w4 := q3.trans (g4.below.mono q3.size))
      | (go_at_call 22; refine (S1.out _ _ _ _ _ _ _ _ _ d1 d2).mono ?_; rintro e w3 ⟨rfl, g3⟩; have q3 : Below W.heap.size W w3 := q2.trans (g3.below.mono q2.size))
      | (go_at_call_of 9 ho'; refine (TB.out _ q1).mono ?_; rintro e w2 ⟨n2, ho2, hc2, H2, rfl, d2, p2⟩; have q2 : Below W.heap.size W w2 := q1.trans (p2.mono q1.size); replace d1 := d1.below p2)
      | (go_at_call_of 9 ho; refine (TA.out _ (Below.refl _ _).drew).mono ?_; rintro e w1 ⟨n1, ho1, hc1, H1, rfl, d1, p1⟩; have q1 : Below W.heap.size W w1 := (Below.refl _ W).drew.trans p1))
  rename_i hH
  go_wp2
  go_ret
  exact ⟨rfl, c0.trans (hH.mono c0.size)⟩
end Go.Proofs.YtgcofpfjdplopaaGreat
