/- The law's own 'twin': a shape with lists of its own. -/
import Derived.Test.YtgcofpfjdplopaaGreatTw9
set_option linter.unusedSimpArgs false
namespace Go.Proofs.YtgcofpfjdplopaaGreat
open Go.RowKit Go.Sort

abbrev C2 (a0 a1 : Addr) (x y : Value) (w : World) : Prop := w.cell? a0 = some x ∧ w.cell? a1 = some y
theorem C2.gr {a0 a1 : Addr} {x y : Value} {w w' : World} (h : C2 a0 a1 x y w) (g : Gr w w') : C2 a0 a1 x y w' := ⟨below_cell h.1 g.below, below_cell h.2 g.below⟩
theorem C2.below {a0 a1 : Addr} {x y : Value} {w w' : World} (h : C2 a0 a1 x y w) (g : Below w.heap.size w w') : C2 a0 a1 x y w' := ⟨below_cell h.1 g, below_cell h.2 g⟩
theorem C2.grown {a0 a1 : Addr} {x y : Value} {w w' : World} {row : Option Nat} (h : C2 a0 a1 x y w) (g : w.grownBy w' row) (h0 : some a0.block ≠ row) (h1 : some a1.block ≠ row) : C2 a0 a1 x y w' :=
  ⟨by rw [World.cell?_of_block (g.block a0.block (World.block_lt_of_cell? w a0 h.1) h0)]; exact h.1, by rw [World.cell?_of_block (g.block a1.block (World.block_lt_of_cell? w a1 h.2) h1)]; exact h.2⟩
theorem C2.set {a0 a1 : Addr} {x y : Value} {w : World} (h : C2 a0 a1 x y w) {p : Addr} (h0 : a0.block ≠ p.block) (h1 : a1.block ≠ p.block) (z : Value) : C2 a0 a1 x y (w.setCell p z) :=
  ⟨(World.cell?_setCell_far w p a0 z (Ne.symm h0)).trans h.1, (World.cell?_setCell_far w p a1 z (Ne.symm h1)).trans h.2⟩
theorem one_cell1 (w : World) (d : Value) (t : TypeId) : ∀ (j : Nat) (u : Value), [d][j]? = some u → (w.alloc (.cells #[d] t)).cell? ((⟨w.heap.size, 0, none⟩ : Addr).add j) = some u := by
  intro j u hj
  match j, hj with
  | 0, hj => simp at hj; subst hj; simp [Addr.add]
theorem Tryz.info23 : (Tryz.prog.info? 23).map (fun i => (i.zero, i.size, i.bytes)) = some (some (.slice none 0 0), 1, 24) := by kernel_rfl
theorem row_succ {w : World} {base e size k : Nat} {v : Value} {xs : List Value} (h : w.ownsRow base e size v (k + 1) xs) : ∃ g cap, v = .slice (some ⟨g, 0, none⟩) (k + 1) cap := by
  rcases h.2 with ⟨_, h3⟩ | ⟨g, cap, cur, h3, _⟩
  · omega
  · exact ⟨g, cap, h3⟩
/-- What the append of one hole leaves. -/
theorem push_ok {W w w' : World} {k s : Int} {v : Hole} {ho : Option Addr} {hc g b3 j g3 : Nat} {H H' : List Hole} {s3 sv : Value} (hH : H'.length = j) (T : TwI W k s v ho hc g b3 H H' s3 w) (m : Mkd w g3 (hAt H j).2.2)
    (hg : (w.alloc (.cells #[.slice (some ⟨g3, 0, none⟩) (hAt H j).2.2.length ((hAt H j).2.2.length + 7)] 23)).grownBy w' s3.ownBlock) (hr : w'.ownsRow W.heap.size 23 1 sv (H'.length + 1) (H'.map hv ++ [.slice (some ⟨g3, 0, none⟩) (hAt H j).2.2.length ((hAt H j).2.2.length + 7)])) :
    TwI W k s v ho hc g b3 H (H' ++ [(some ⟨g3, 0, none⟩, (hAt H j).2.2.length + 7, (hAt H j).2.2)]) sv (w'.setCell ⟨b3, 2, none⟩ sv) ∧ w'.cell? ⟨b3, 2, none⟩ = some s3 ∧ w'.frozen? ⟨b3, 2, none⟩ = false := by
  have q : Below w.heap.size w (w.alloc (.cells #[.slice (some ⟨g3, 0, none⟩) (hAt H j).2.2.length ((hAt H j).2.2.length + 7)] 23)) := (Below.refl _ _).alloc (Nat.le_refl _) _
  have t := T.below q
  have o' := t.o.grown hg (t.o.ne_row t.row (by decide))
  refine ⟨TwI.push (x := (some ⟨g3, 0, none⟩, (hAt H j).2.2.length + 7, (hAt H j).2.2)) T ⟨g3, by rw [hH], by rw [hH]; exact m⟩ hg hr, o'.cell rfl, o'.fro 2⟩
theorem TwI.first {W w : World} {k s : Int} {v : Hole} {ho : Option Addr} {hc g b3 : Nat} {H : List Hole} (a : Bl w W.heap.size 26 (shC k v ho H.length hc s)) (r : Bl w (W.heap.size + 1) 26 zeroC) (kN : Bl w b3 26 zeroC) (m : Mkd w g v.2.2) (c : Below W.heap.size W w) (l : W.heap.size + 1 < b3) :
    TwI W k s v ho hc g b3 H [] (.slice none 0 0) ((((w.setCell ⟨b3, 0, none⟩ (.int .u8 k)).setCell ⟨b3, 1, none⟩ (.slice (some ⟨g, 0, none⟩) v.2.2.length (v.2.2.length + 7))).setCell ⟨b3, 2, none⟩ (.slice none 0 0)).setCell ⟨b3, 3, none⟩ (.int .i32 s)) := by
  have hne := m.ne_bl kN
  refine ⟨(((a.other (by simp only []; omega) _).other (by simp only []; omega) _).other (by simp only []; omega) _).other (by simp only []; omega) _, (((r.other (by simp only []; omega) _).other (by simp only []; omega) _).other (by simp only []; omega) _).other (by simp only []; omega) _, ?_, World.ownsRow_nil _ _ _ _, (((m.other hne _).other hne _).other hne _).other hne _, fun i hi => by simp at hi, (((c.setCell (by simp only []; omega) _).setCell (by simp only []; omega) _).setCell (by simp only []; omega) _).setCell (by simp only []; omega) _, l⟩
  have := (((kN.setAt 0 (.int .u8 k)).setAt 1 (.slice (some ⟨g, 0, none⟩) v.2.2.length (v.2.2.length + 7))).setAt 2 (.slice none 0 0)).setAt 3 (.int .i32 s)
  simpa using this
theorem TwI.first2 {W w : World} {k s : Int} {v : Hole} {ho : Option Addr} {hc g : Nat} {H : List Hole} (a : Bl w W.heap.size 26 (shC k v ho H.length hc s)) (r : Bl w (W.heap.size + 1) 26 zeroC) (m : Mkd w g v.2.2) (c : Below W.heap.size W w) :
    TwI W k s v ho hc g w.heap.size H [] (.slice none 0 0) (w.alloc (.cells #[.int .u8 k, .slice (some ⟨g, 0, none⟩) v.2.2.length (v.2.2.length + 7), .slice none 0 0, .int .i32 s] 26)) :=
  ⟨a.alloc _, r.alloc _, Bl.new _ _ _, World.ownsRow_nil _ _ _ _, m.below ((Below.refl _ _).alloc (Nat.le_refl _) _), fun i hi => by simp at hi, c.alloc c.size _, r.lt⟩
/-- What is left of it where the result's block is written. -/
structure Tn (W : World) (v : Hole) (g : Nat) (H H' : List Hole) (s3 : Value) (w : World) : Prop where
  r : ∃ cs, Bl w (W.heap.size + 1) 26 cs
  row : w.ownsRow W.heap.size 23 1 s3 H'.length (H'.map hv)
  m : Mkd w g v.2.2
  hm : ∀ i, i < H'.length → Made w (hAt H' i) (hAt H i).2.2
  c : Below W.heap.size W w
theorem Tn.set {W w : World} {v : Hole} {g : Nat} {H H' : List Hole} {s3 : Value} (T : Tn W v g H H' s3 w) (i : Nat) (u : Value) : Tn W v g H H' s3 (w.setCell ⟨W.heap.size + 1, i, none⟩ u) := by
  obtain ⟨cs, kR⟩ := T.r
  have ob := kR.ne_row T.row (by decide)
  refine ⟨⟨_, kR.setAt i u⟩, ?_, T.m.other (T.m.ne_bl kR) _, fun j hj => ?_, T.c.setCell (by simp only []; omega) _⟩
  · refine World.ownsRow.kept T.row (grown_set _ _ _) ?_
    cases e : s3.ownBlock with
    | none => exact .inl rfl
    | some j => exact .inr (fun e2 => ob (by rw [e, e2]))
  · obtain ⟨gi, e, m⟩ := T.hm j hj
    exact ⟨gi, e, m.other (m.ne_bl kR) _⟩
theorem TwI.tn {W w : World} {k s : Int} {v : Hole} {ho : Option Addr} {hc g b3 : Nat} {H H' : List Hole} {s3 : Value} (T : TwI W k s v ho hc g b3 H H' s3 w) : Tn W v g H H' s3 w := ⟨⟨_, T.r⟩, T.row, T.m, T.hm, T.c⟩
theorem Tn.holes {W w : World} {v : Hole} {g : Nat} {H H' : List Hole} {a0 : Option Addr} {cp : Nat} (T : Tn W v g H H' (.slice a0 H'.length cp) w) : Hls w a0 H' := by
  rcases T.row.2 with ⟨e, h0⟩ | ⟨b, cp', cur, e, _, hb, _, _, _, ht⟩
  · have e0 : H' = [] := List.eq_nil_of_length_eq_zero h0
    subst e0
    exact fun i hi => by simp at hi
  · cases e
    intro i hi
    obtain ⟨gi, ei, mi⟩ := T.hm i hi
    refine ⟨b, 0, rfl, ?_, ?_⟩
    · have kB : Bl w b 23 cur := hb
      have : (H'.map hv)[i]? = some (hv (hAt H' i)) := by simp [hAt, List.getD, hi]
      rw [← ht, List.getElem?_take, if_pos (by omega)] at this
      rw [Nat.zero_add]
      exact kB.cell (by simpa using this)
    · rw [ei]; exact mi.pts
/-- The holes, as the slice reads them. -/
theorem TwI.holes {W w : World} {k s : Int} {v : Hole} {ho : Option Addr} {hc g b3 : Nat} {H H' : List Hole} {s3 : Value} (T : TwI W k s v ho hc g b3 H H' s3 w) : ∃ a0 cp, s3 = .slice a0 H'.length cp := by
  rcases T.row.2 with ⟨e, h0⟩ | ⟨b, cp, cur, e, _⟩
  · exact ⟨none, 0, by rw [h0]; exact e⟩
  · exact ⟨_, cp, e⟩
theorem four_below {w : World} {b t : Nat} {x y z v : Value} (h : Bl w b t #[x, y, z, v]) : (∀ w', Below w.heap.size w w' → w'.cell? ⟨b, 0, none⟩ = some x) ∧ (∀ w', Below w.heap.size w w' → w'.cell? ⟨b, 1, none⟩ = some y) ∧ (∀ w', Below w.heap.size w w' → w'.cell? ⟨b, 2, none⟩ = some z) ∧ (∀ w', Below w.heap.size w w' → w'.cell? ⟨b, 3, none⟩ = some v) :=
  ⟨fun _ g => (h.below g).cell rfl, fun _ g => (h.below g).cell rfl, fun _ g => (h.below g).cell rfl, fun _ g => (h.below g).cell rfl⟩

set_option maxRecDepth 20000 in
set_option maxHeartbeats 8000000 in
theorem twin_any (k s : Int) (v : Hole) (ho : Option Addr) (hc : Nat) (H : List Hole) (hv1 : v.2.2.length ≤ 17592186043904) (hF : Few H) (hl : H.length ≤ 5864062014634) (w : World) (hP : Pts w v.1 v.2.2) (hQ : Hls w ho H) :
    Calls Tryz.prog 9 #[shV k v ho H.length hc s] w fun e w' => ∃ g ho' hc' H', e = .returned (shV k (some ⟨g, 0, none⟩, v.2.2.length + 7, v.2.2) ho' H'.length hc' s) ∧ H'.length = H.length ∧ (∀ i, i < H'.length → Made w' (hAt H' i) (hAt H i).2.2) ∧ Hls w' ho' H' ∧ Mkd w' g v.2.2 ∧ Below w.heap.size w w' := by
  obtain ⟨kA, kR, g0⟩ := two_new w 26 26 (shC k v ho H.length hc s) zeroC
  obtain ⟨i0, hi, hz0, hz1, hz2⟩ := info_parts Tryz.info23
  have si8 := run_store_i .u8
  have si32 := run_store_i .i32
  have ss := run_store_s
  go_enter Tryz.func9, Tryz.ntmps9
  go_upto_region 1 with fail
  generalize (w.alloc (.cells #[.int .u8 k, hv v, .slice ho H.length hc, .int .i32 s] 26)).alloc (.cells #[.int .u8 0, .slice none 0 0, .slice none 0 0, .int .i32 0] 26) = W at *
  have c0 := g0.below
  have PT : Hid (∀ W', Below W.heap.size W W' → Calls Tryz.prog 33 #[hv v] W' fun e w' => ∃ g, e = .returned (.slice (some ⟨g, 0, none⟩) v.2.2.length (v.2.2.length + 7)) ∧ Mkd w' g v.2.2 ∧ W'.heap.size ≤ g ∧ Below W'.heap.size W' w') := fun W' h => points_any _ _ _ W' hv1 ((hP.mono c0).mono h)
  have hQ1 := hQ.mono c0
  have hsz : w.heap.size + 1 < W.heap.size := kR.lt
  go_cut [3] (fun s3 w' => ∃ g b3, s3 = .pointer (some ⟨b3, 0, none⟩) ∧ TwI w k s v ho hc g b3 H [] (.slice none 0 0) w')
  case first =>
    obtain ⟨x0, x1, _, x3⟩ := four_below kA
    clear hQ1 hQ hP
    go_region_held3 (Below W.heap.size W)
      (first
        | exact (Below.refl _ _).drew
        | assumption
        | exact Below.alloc Q3 Q3.size _
        | exact Q3
        | exact Below.trans (by assumption) (by assumption)
        | exact Below.alloc (by assumption) (Below.size (by assumption)) _
        | exact Below.setCell (Below.setCell (Below.setCell (Below.setCell (by assumption) (by simp only []; omega) _) (by simp only []; omega) _) (by simp only []; omega) _) (by simp only []; omega) _)
      (first
        | (go_at_call 33; refine (PT.out _ (by assumption)).mono ?_; rintro e w3 ⟨g3, rfl, m3, hg3, q3⟩; have Q3 : Below W.heap.size W w3 := Below.trans (by assumption) (Below.mono q3 (Below.size (by assumption))); first | (have kN : Bl w3 W.heap.size 26 zeroC := (Bl.new W.drew 26 zeroC).below q3; obtain ⟨n0, n1, n2, n3⟩ := kN.four9; have n4 := kN.fro 0; have n5 := kN.fro 1; have n6 := kN.fro 2; have n7 := kN.fro 3) | skip))
    · go_wp2_with fail
      go_meet
      case rel => exact ⟨g3, w3.heap.size, rfl, TwI.first2 (kA.below Q3) (kR.below Q3) m3 (c0.trans (Q3.mono c0.size))⟩
    · go_wp2_with fail
      go_meet
      case rel => exact ⟨g3, W.heap.size, rfl, TwI.first (kA.below Q3) (kR.below Q3) kN m3 (c0.trans (Q3.mono c0.size)) hsz⟩
  case rest =>
    obtain ⟨g, b3, rfl, T0⟩ := hcut
    clear PT hQ1 kA kR g0 c0 hP
    have HQ := hid' hQ
    have HFew := hid' hF
    clear hQ hF
    go_wp2
    go_loopw [4] (fun v4 wr => ∃ (j : Nat) (H' : List Hole) (s3 : Value), j ≤ H.length ∧ v4 = .int .i64 j ∧ Hid (H'.length = j) ∧ Hid (TwI w k s v ho hc g b3 H H' s3 wr)) (fun v4 _ => H.length - (intOf v4).toNat)
    case atStart => exact ⟨0, [], .slice none 0 0, by omega, rfl, rfl, T0⟩
    case round =>
      clear T0
      obtain ⟨j, H', s3, hj, rfl, hH, T⟩ := hrel
      obtain ⟨_, _, x2, _⟩ := T.out.a.four9
      by_cases hlt : j < H.length
      · obtain ⟨b, off, rfl, p0, P1⟩ := HQ.out j hlt
        have n1 := T.out.a.ne_row T.out.row (by decide)
        have hb := World.block_lt_of_cell? w ⟨b, off + j, none⟩ p0
        simp only [] at hb
        have n2 : some b ≠ s3.ownBlock := fun e => by have := (T.out.row.lt b e.symm).1; omega
        have hl3 := T.out.l
        have l1 : w.heap.size ≠ b3 := by omega
        have l2 : b ≠ b3 := by omega
        have PTc : Hid (Calls Tryz.prog 33 #[hv (hAt H j)] wr.drew fun e w' => ∃ g3, e = .returned (.slice (some ⟨g3, 0, none⟩) (hAt H j).2.2.length ((hAt H j).2.2.length + 7)) ∧ Mkd w' g3 (hAt H j).2.2 ∧ Below wr.heap.size wr w') := by
          refine (points_any _ _ _ wr.drew (HFew.out j) (P1.mono T.out.c.drew)).mono ?_
          rintro e w' ⟨g3, rfl, m3, _, q3⟩
          exact ⟨g3, rfl, m3, (Below.refl _ wr).drew.trans q3⟩
        replace p0 := below_cell p0 T.out.c
        obtain ⟨_, _, z1, _⟩ := T.out.o.four9
        clear P1
        go_upto_region 5 with fail
        refine wp_region_held_drew (S := C2 ⟨w.heap.size, 2, none⟩ ⟨b, off + j, none⟩ (.slice (some ⟨b, off, none⟩) H.length hc) (hv (hAt H j))) (by kernel_rfl) ⟨x2, p0⟩ (fun hHeld => ?_)
        refine wpAnyH_take (i := 0) (v := ?tv1) rfl (by kernel_rfl) (by kernel_rfl) (by kernel_rfl) (fun _ _ _ h => h) (Or.inl ⟨by rfl, ?ty1⟩) (by assumption) ?tr1
        case ty1 => (intro w hSw; (try dsimp only at hSw); go_simp <;> with_reducible rfl)
        try simp only [Act.put, List.getElem_toArray, List.getElem_cons_zero, List.getElem_cons_succ, List.setIfInBounds_toArray, List.set_cons_zero, List.set_cons_succ]
        refine wpAnyH_take (i := 2) (v := ?tv2) rfl (by kernel_rfl) (by kernel_rfl) (by kernel_rfl) (fun _ _ _ h => h) (Or.inl ⟨by rfl, ?ty2⟩) (by assumption) ?tr2
        case ty2 => (intro w hSw; (try dsimp only at hSw); go_simp <;> with_reducible rfl)
        try simp only [Act.put, List.getElem_toArray, List.getElem_cons_zero, List.getElem_cons_succ, List.setIfInBounds_toArray, List.set_cons_zero, List.set_cons_succ]
        refine wpAnyH_take (i := 3) (v := ?tv3) rfl (by kernel_rfl) (by kernel_rfl) (by kernel_rfl) (fun _ _ _ h => h) (Or.inl ⟨by rfl, ?ty3⟩) (by assumption) ?tr3
        case ty3 => (intro w hSw; (try dsimp only at hSw); go_simp <;> with_reducible rfl)
        try simp only [Act.put, List.getElem_toArray, List.getElem_cons_zero, List.getElem_cons_succ, List.setIfInBounds_toArray, List.set_cons_zero, List.set_cons_succ]
        refine wpAnyH_take (i := 4) (v := ?tv4) rfl (by kernel_rfl) (by kernel_rfl) (by kernel_rfl) (fun _ _ _ h => h) (Or.inl ⟨by rfl, ?ty4⟩) (by assumption) ?tr4
        case ty4 => (intro w hSw; (try dsimp only at hSw); go_simp <;> with_reducible rfl)
        try simp only [Act.put, List.getElem_toArray, List.getElem_cons_zero, List.getElem_cons_succ, List.setIfInBounds_toArray, List.set_cons_zero, List.set_cons_succ]
        refine wpAnyH_take (i := 5) (v := ?tv5) rfl (by kernel_rfl) (by kernel_rfl) (by kernel_rfl) (fun _ _ _ h => h) (Or.inl ⟨by rfl, ?ty5⟩) (by assumption) ?tr5
        case ty5 => (intro w hSw; (try dsimp only at hSw); go_simp <;> with_reducible rfl)
        try simp only [Act.put, List.getElem_toArray, List.getElem_cons_zero, List.getElem_cons_succ, List.setIfInBounds_toArray, List.set_cons_zero, List.set_cons_succ]
        refine wpAnyH_take (i := 6) (v := ?tv6) rfl (by kernel_rfl) (by kernel_rfl) (by kernel_rfl) (fun _ _ _ h => h) (Or.inl ⟨by rfl, ?ty6⟩) (by assumption) ?tr6
        case ty6 => (intro w hSw; (try dsimp only at hSw); go_simp <;> with_reducible rfl)
        try simp only [Act.put, List.getElem_toArray, List.getElem_cons_zero, List.getElem_cons_succ, List.setIfInBounds_toArray, List.set_cons_zero, List.set_cons_succ]
        refine wpAnyH_ready (rs := [1, 7]) (by kernel_rfl) (by simp) (AllReadyH.cons rfl (fun K hK => ?pa) (AllReadyH.cons rfl (fun K hK => ?pb) AllReadyH.nil))
        case pa =>
          go_simp
          refine hK.out _ _ ?_ (fun hHeld => ?_)
          · assumption
          clear hK K
          try simp only [Act.put, List.getElem_toArray, List.getElem_cons_zero, List.getElem_cons_succ, List.setIfInBounds_toArray, List.set_cons_zero, List.set_cons_succ]
          refine wpAnyH_ready (rs := [7]) (by kernel_rfl) (by simp) (AllReadyH.cons rfl (fun K hK => ?_) AllReadyH.nil)
          go_simp
          refine PTc.out.mono ?_
          rintro e w3 ⟨g3, rfl, m3, Q3⟩
          have T3 := hid' (T.out.below Q3)
          obtain ⟨_, _, z2, _⟩ := T3.out.o.four9
          obtain ⟨_, _, z3, _⟩ := (T3.out.o.alloc (.cells #[.slice (some ⟨g3, 0, none⟩) (hAt H j).2.2.length ((hAt H j).2.2.length + 7)] 23)).four9
          dsimp only
          refine hK.out _ _ ?_ (fun hHeld => ?_)
          · exact C2.below (by assumption) Q3
          clear hK K
          try simp only [Act.put, List.getElem_toArray, List.getElem_cons_zero, List.getElem_cons_succ, List.setIfInBounds_toArray, List.set_cons_zero, List.set_cons_succ]
          refine wpAnyH_ready (rs := [8]) (by kernel_rfl) (by simp) (AllReadyH.cons rfl (fun K hK => ?_) AllReadyH.nil)
          go_simp
          refine hK.out _ _ ?_ (fun hHeld => ?_)
          · exact C2.gr (by assumption) ((Gr.refl _).alloc _)
          clear hK K
          try simp only [Act.put, List.getElem_toArray, List.getElem_cons_zero, List.getElem_cons_succ, List.setIfInBounds_toArray, List.set_cons_zero, List.set_cons_succ]
          refine wpAnyH_ready (rs := [9]) (by kernel_rfl) (by simp) (AllReadyH.cons rfl (fun K hK => ?_) AllReadyH.nil)
          refine wp_append_own _ (.tmp 21) (.tmp 28) 24 rfl w.heap.size 23 i0 (.slice none 0 0) 1 24 Tryz.underlying24 hi hz0 hz1 hz2 rfl (by decide) _ H'.length _ rfl (T3.out.row.alloc _) ⟨w3.heap.size, 0, none⟩ 1 1 [.slice (some ⟨g3, 0, none⟩) (hAt H j).2.2.length ((hAt H j).2.2.length + 7)] rfl rfl (one_cell1 _ _ _) (fun u hu => by simp at hu; subst hu; rfl) (by rw [hH.out]; unfold maxLen; omega) (by rw [hH.out]; omega) (by have := T3.out.size; simp; omega) ?_
          intro sv' w' ho' hg' _
          obtain ⟨gs, cs, rfl⟩ := row_succ ho'
          have hp := push_ok hH.out T3.out m3 hg' ho'
          have ob := hp.2.1
          have of := hp.2.2
          refine hK.out _ _ ?_ (fun hHeld => ?_)
          · exact C2.grown (by assumption) hg' n1 n2
          clear hK K
          try simp only [Act.put, List.getElem_toArray, List.getElem_cons_zero, List.getElem_cons_succ, List.setIfInBounds_toArray, List.set_cons_zero, List.set_cons_succ]
          refine wpAnyH_take (i := 10) (v := ?tv7) rfl (by kernel_rfl) (by kernel_rfl) (by kernel_rfl) (fun _ _ _ h => h) (Or.inl ⟨by rfl, ?ty7⟩) (by assumption) ?tr7
          case ty7 => (intro w hSw; (try dsimp only at hSw); go_simp <;> with_reducible rfl)
          try simp only [Act.put, List.getElem_toArray, List.getElem_cons_zero, List.getElem_cons_succ, List.setIfInBounds_toArray, List.set_cons_zero, List.set_cons_succ]
          refine wpAnyH_ready (rs := [11]) (by kernel_rfl) (by simp) (AllReadyH.cons rfl (fun K hK => ?_) AllReadyH.nil)
          go_simp
          refine hK.out _ _ ?_ (fun hHeld => ?_)
          · exact C2.set (by assumption) l1 l2 _
          clear hK K
          try simp only [Act.put, List.getElem_toArray, List.getElem_cons_zero, List.getElem_cons_succ, List.setIfInBounds_toArray, List.set_cons_zero, List.set_cons_succ]
          refine wpAnyH_done (by kernel_rfl) ?_ _
          replace hp := hid' hp.1
          clear hHeld ob of T3 z2 z3 ho' hg' m3 Q3
          go_wp2
          go_roundw
          case rel => exact ⟨j + 1, _, _, by omega, by go_num, by unfold Hid; rw [List.length_append, hH.out]; rfl, hp⟩
          case measure => simp [intOf]; omega
        case pb =>
          go_simp
          refine PTc.out.mono ?_
          rintro e w3 ⟨g3, rfl, m3, Q3⟩
          have T3 := hid' (T.out.below Q3)
          obtain ⟨_, _, z2, _⟩ := T3.out.o.four9
          obtain ⟨_, _, z3, _⟩ := (T3.out.o.alloc (.cells #[.slice (some ⟨g3, 0, none⟩) (hAt H j).2.2.length ((hAt H j).2.2.length + 7)] 23)).four9
          dsimp only
          refine hK.out _ _ ?_ (fun hHeld => ?_)
          · exact C2.below (by assumption) Q3
          clear hK K
          try simp only [Act.put, List.getElem_toArray, List.getElem_cons_zero, List.getElem_cons_succ, List.setIfInBounds_toArray, List.set_cons_zero, List.set_cons_succ]
          refine wpAnyH_ready (rs := [1, 8]) (by kernel_rfl) (by simp) (AllReadyH.cons rfl (fun K hK => ?pc) (AllReadyH.cons rfl (fun K hK => ?pd) AllReadyH.nil))
          case pc =>
            go_simp
            refine hK.out _ _ ?_ (fun hHeld => ?_)
            · assumption
            clear hK K
            try simp only [Act.put, List.getElem_toArray, List.getElem_cons_zero, List.getElem_cons_succ, List.setIfInBounds_toArray, List.set_cons_zero, List.set_cons_succ]
            refine wpAnyH_ready (rs := [8]) (by kernel_rfl) (by simp) (AllReadyH.cons rfl (fun K hK => ?_) AllReadyH.nil)
            go_simp
            refine hK.out _ _ ?_ (fun hHeld => ?_)
            · exact C2.gr (by assumption) ((Gr.refl _).alloc _)
            clear hK K
            try simp only [Act.put, List.getElem_toArray, List.getElem_cons_zero, List.getElem_cons_succ, List.setIfInBounds_toArray, List.set_cons_zero, List.set_cons_succ]
            refine wpAnyH_ready (rs := [9]) (by kernel_rfl) (by simp) (AllReadyH.cons rfl (fun K hK => ?_) AllReadyH.nil)
            refine wp_append_own _ (.tmp 21) (.tmp 28) 24 rfl w.heap.size 23 i0 (.slice none 0 0) 1 24 Tryz.underlying24 hi hz0 hz1 hz2 rfl (by decide) _ H'.length _ rfl (T3.out.row.alloc _) ⟨w3.heap.size, 0, none⟩ 1 1 [.slice (some ⟨g3, 0, none⟩) (hAt H j).2.2.length ((hAt H j).2.2.length + 7)] rfl rfl (one_cell1 _ _ _) (fun u hu => by simp at hu; subst hu; rfl) (by rw [hH.out]; unfold maxLen; omega) (by rw [hH.out]; omega) (by have := T3.out.size; simp; omega) ?_
            intro sv' w' ho' hg' _
            obtain ⟨gs, cs, rfl⟩ := row_succ ho'
            have hp := push_ok hH.out T3.out m3 hg' ho'
            have ob := hp.2.1
            have of := hp.2.2
            refine hK.out _ _ ?_ (fun hHeld => ?_)
            · exact C2.grown (by assumption) hg' n1 n2
            clear hK K
            try simp only [Act.put, List.getElem_toArray, List.getElem_cons_zero, List.getElem_cons_succ, List.setIfInBounds_toArray, List.set_cons_zero, List.set_cons_succ]
            refine wpAnyH_take (i := 10) (v := ?tv8) rfl (by kernel_rfl) (by kernel_rfl) (by kernel_rfl) (fun _ _ _ h => h) (Or.inl ⟨by rfl, ?ty8⟩) (by assumption) ?tr8
            case ty8 => (intro w hSw; (try dsimp only at hSw); go_simp <;> with_reducible rfl)
            try simp only [Act.put, List.getElem_toArray, List.getElem_cons_zero, List.getElem_cons_succ, List.setIfInBounds_toArray, List.set_cons_zero, List.set_cons_succ]
            refine wpAnyH_ready (rs := [11]) (by kernel_rfl) (by simp) (AllReadyH.cons rfl (fun K hK => ?_) AllReadyH.nil)
            go_simp
            refine hK.out _ _ ?_ (fun hHeld => ?_)
            · exact C2.set (by assumption) l1 l2 _
            clear hK K
            try simp only [Act.put, List.getElem_toArray, List.getElem_cons_zero, List.getElem_cons_succ, List.setIfInBounds_toArray, List.set_cons_zero, List.set_cons_succ]
            refine wpAnyH_done (by kernel_rfl) ?_ _
            replace hp := hid' hp.1
            clear hHeld ob of T3 z2 z3 ho' hg' m3 Q3
            go_wp2
            go_roundw
            case rel => exact ⟨j + 1, _, _, by omega, by go_num, by unfold Hid; rw [List.length_append, hH.out]; rfl, hp⟩
            case measure => simp [intOf]; omega
          case pd =>
            go_simp
            refine hK.out _ _ ?_ (fun hHeld => ?_)
            · exact C2.gr (by assumption) ((Gr.refl _).alloc _)
            clear hK K
            try simp only [Act.put, List.getElem_toArray, List.getElem_cons_zero, List.getElem_cons_succ, List.setIfInBounds_toArray, List.set_cons_zero, List.set_cons_succ]
            refine wpAnyH_ready (rs := [1]) (by kernel_rfl) (by simp) (AllReadyH.cons rfl (fun K hK => ?_) AllReadyH.nil)
            go_simp
            refine hK.out _ _ ?_ (fun hHeld => ?_)
            · assumption
            clear hK K
            try simp only [Act.put, List.getElem_toArray, List.getElem_cons_zero, List.getElem_cons_succ, List.setIfInBounds_toArray, List.set_cons_zero, List.set_cons_succ]
            refine wpAnyH_ready (rs := [9]) (by kernel_rfl) (by simp) (AllReadyH.cons rfl (fun K hK => ?_) AllReadyH.nil)
            refine wp_append_own _ (.tmp 21) (.tmp 28) 24 rfl w.heap.size 23 i0 (.slice none 0 0) 1 24 Tryz.underlying24 hi hz0 hz1 hz2 rfl (by decide) _ H'.length _ rfl (T3.out.row.alloc _) ⟨w3.heap.size, 0, none⟩ 1 1 [.slice (some ⟨g3, 0, none⟩) (hAt H j).2.2.length ((hAt H j).2.2.length + 7)] rfl rfl (one_cell1 _ _ _) (fun u hu => by simp at hu; subst hu; rfl) (by rw [hH.out]; unfold maxLen; omega) (by rw [hH.out]; omega) (by have := T3.out.size; simp; omega) ?_
            intro sv' w' ho' hg' _
            obtain ⟨gs, cs, rfl⟩ := row_succ ho'
            have hp := push_ok hH.out T3.out m3 hg' ho'
            have ob := hp.2.1
            have of := hp.2.2
            refine hK.out _ _ ?_ (fun hHeld => ?_)
            · exact C2.grown (by assumption) hg' n1 n2
            clear hK K
            try simp only [Act.put, List.getElem_toArray, List.getElem_cons_zero, List.getElem_cons_succ, List.setIfInBounds_toArray, List.set_cons_zero, List.set_cons_succ]
            refine wpAnyH_take (i := 10) (v := ?tv9) rfl (by kernel_rfl) (by kernel_rfl) (by kernel_rfl) (fun _ _ _ h => h) (Or.inl ⟨by rfl, ?ty9⟩) (by assumption) ?tr9
            case ty9 => (intro w hSw; (try dsimp only at hSw); go_simp <;> with_reducible rfl)
            try simp only [Act.put, List.getElem_toArray, List.getElem_cons_zero, List.getElem_cons_succ, List.setIfInBounds_toArray, List.set_cons_zero, List.set_cons_succ]
            refine wpAnyH_ready (rs := [11]) (by kernel_rfl) (by simp) (AllReadyH.cons rfl (fun K hK => ?_) AllReadyH.nil)
            go_simp
            refine hK.out _ _ ?_ (fun hHeld => ?_)
            · exact C2.set (by assumption) l1 l2 _
            clear hK K
            try simp only [Act.put, List.getElem_toArray, List.getElem_cons_zero, List.getElem_cons_succ, List.setIfInBounds_toArray, List.set_cons_zero, List.set_cons_succ]
            refine wpAnyH_done (by kernel_rfl) ?_ _
            replace hp := hid' hp.1
            clear hHeld ob of T3 z2 z3 ho' hg' m3 Q3
            go_wp2
            go_roundw
            case rel => exact ⟨j + 1, _, _, by omega, by go_num, by unfold Hid; rw [List.length_append, hH.out]; rfl, hp⟩
            case measure => simp [intOf]; omega
      · obtain rfl : j = H.length := by omega
        obtain ⟨a0, cp, e3⟩ := T.out.holes
        subst e3
        obtain ⟨o0, o1, o2, o3⟩ := T.out.o.four9
        obtain ⟨r0, r1, r2, r3⟩ := T.out.r.four9
        have f0 := T.out.r.fro 0
        have f1 := T.out.r.fro 1
        have f2 := T.out.r.fro 2
        have f3 := T.out.r.fro 3
        have Tf := (((T.out.tn.set 0 (.int .u8 k)).set 1 (.slice (some ⟨g, 0, none⟩) v.2.2.length (v.2.2.length + 7))).set 2 (.slice a0 H'.length cp)).set 3 (.int .i32 s)
        replace Tf := hid' Tf
        go_wp2
        refine bodyPost_ret (v := shV k (some ⟨g, 0, none⟩, v.2.2.length + 7, v.2.2) a0 H'.length cp s) (by simp [results, Tryz.results9, go_sem, r0, r1, r2, r3]) rfl ?_
        exact ⟨g, a0, cp, H', rfl, hH.out, Tf.out.hm, Tf.out.holes, Tf.out.m, Tf.out.c⟩
end Go.Proofs.YtgcofpfjdplopaaGreat
