/- put: one more in the heap. -/
import Derived.Test.YtaapdkjmlplhgaaSt
import Derived.Deep.RegionLaw
import Derived.Maps.AppendAt
set_option linter.unusedSimpArgs false
set_option linter.unusedVariables false
namespace Go.Proofs.Ytaapdkjmlplhgaa
open Go.RowKit Go.Sort Go.Shelf Go.Maps
attribute [local go_sem] Oper.semAt_some wide_fn
attribute [local simp] wide_fn

/-- append as one step of a region that draws, by its equation. -/
theorem step_append_run {P : Program} {ops : Array Oper} {o : Oper} {a : Act} {w : World} {K : Act → World → Prop} {Q : Exit → Act → World → Prop} {E : Prop}
    (hg : o.guard = none) (s x : Operand) (t : TypeId) (hop : o.op = Op.call { callee := Callee.builtin Builtin.append, args := #[s, x], argTypes := #[t, t] })
    (sv xv v' : Value) (w' : World) (hs : a.eval s = sv) (hx : a.eval x = xv) (hrun : (Builtin.append_ #[t, t] o.type #[sv, xv]).run P w = .ok v' w')
    (hK : K (a.put o.dst v') w') : if Region.wanted o (yielded ops a.tmps) = true then Oper.wp P o a w K Q else E := by
  have hw : Region.wanted o (yielded ops a.tmps) = true := by simp [Region.wanted, hg]
  rw [if_pos hw]
  unfold Oper.wp
  simp [execOp, hop, resolve, invoke, builtin, hs, hx, hrun, Result.andThen]
  exact hK
theorem d_info : (Try.prog.info? 32).map (fun i => (i.zero, i.size, i.bytes)) = some (some (.agg #[.int .u32 0, .int .u32 0, .int .u32 0]), 3, 12) := by kernel_rfl
/-- A heap whose list may be none. -/
structure Hv (B : Nat) (w : World) (h pb mb : Nat) (v : Value) (l : List Du) (s : Nat) (m : Pf) : Prop where
  heap : Bk w h 62 (hC v pb)
  cap : Bk w pb 52 [.map (some mb)]
  row : w.ownsRow B 32 3 v l.length (flat l)
  map : MapF w mb s m
theorem row_keep {w w' : World} {B : Nat} {v : Value} {n : Nat} {xs : List Value} (h : w.ownsRow B 32 3 v n xs) (e : ∀ g, v.ownBlock = some g → w'.heap[g]? = w.heap[g]?) : w'.ownsRow B 32 3 v n xs := by
  refine ⟨h.1, ?_⟩
  rcases h.2 with h | ⟨g, cap, cur, rfl, h2, h3, h4⟩
  · exact .inl h
  · exact .inr ⟨g, cap, cur, rfl, h2, (e g rfl).trans h3, h4⟩
theorem row_lt {w : World} {B : Nat} {v : Value} {n : Nat} {xs : List Value} (h : w.ownsRow B 32 3 v n xs) {g : Nat} (e : v.ownBlock = some g) : g < w.heap.size ∧ B ≤ g ∧ ∃ cur, Bk w g 32 cur := by
  rcases h.2 with ⟨rfl, _⟩ | ⟨g', cap, cur, rfl, h2, h3, h4⟩
  · cases e
  · cases e
    exact ⟨lt_of_block h3, h2, cur.toList, by unfold Bk; simpa using h3⟩
theorem Hv.gr {B : Nat} {w w' : World} {h pb mb : Nat} {v : Value} {l : List Du} {s : Nat} {m : Pf} (H : Hv B w h pb mb v l s m) (k : Gr w w') : Hv B w' h pb mb v l s m :=
  ⟨H.heap.gr k, H.cap.gr k, row_keep H.row (fun g e => k.below.block _ (row_lt H.row e).1), H.map.same (k.below.block _ H.map.lt)⟩
theorem Hv.ne {B : Nat} {w : World} {h pb mb : Nat} {v : Value} {l : List Du} {s : Nat} {m : Pf} (H : Hv B w h pb mb v l s m) : h ≠ mb ∧ pb ≠ mb ∧ ∀ g, v.ownBlock = some g → g ≠ h ∧ g ≠ pb ∧ g ≠ mb := by
  obtain ⟨es, c, hm⟩ := H.map.isMap
  refine ⟨fun e => bk_map H.heap (e ▸ hm), fun e => bk_map H.cap (e ▸ hm), fun g e => ?_⟩
  obtain ⟨_, _, cur, hr⟩ := row_lt H.row e
  refine ⟨fun e => ?_, fun e => ?_, fun e => bk_map hr (e ▸ hm)⟩
  · subst e; have := bk_ty H.heap hr; cases this
  · subst e; have := bk_ty H.cap hr; cases this
theorem Hv.hs {B : Nat} {w : World} {h pb mb g cp : Nat} {l : List Du} {s : Nat} {m : Pf} (H : Hv B w h pb mb (.slice (some ⟨g, 0, none⟩) l.length cp) l s m) : Hs w h pb mb g cp l s m ∧ B ≤ g ∧ l.length ≤ cp := by
  rcases row_of_own H.row with ⟨e, _⟩ | ⟨g', cp', e, hB, hr, hc⟩
  · cases e
  · cases e
    exact ⟨⟨H.heap, H.cap, hr, H.map⟩, hB, hc⟩
theorem Hs.hv {B : Nat} {w : World} {h pb mb g cp : Nat} {l : List Du} {s : Nat} {m : Pf} (H : Hs w h pb mb g cp l s m) (hB : B ≤ g) : Hv B w h pb mb (.slice (some ⟨g, 0, none⟩) l.length cp) l s m :=
  ⟨H.heap, H.cap, H.row.own hB, H.map⟩
theorem nth_app (l : List Du) (x : Du) (j : Nat) (hj : j < l.length) : nth (l ++ [x]) j = nth l j := by
  simp [nth, List.getD, List.getElem?_append_left hj]
theorem oth_app (l : List Du) (x y : Du) : Oth (l ++ [x]) l.length y ↔ y ∈ l := by
  rw [mem_nth]
  constructor
  · rintro ⟨j, h1, h2, h3⟩
    have hj : j < l.length := by simp at h1; omega
    exact ⟨j, hj, by rw [← nth_app l x j hj]; exact h3⟩
  · rintro ⟨j, h1, h2⟩
    exact ⟨j, by simp; omega, by omega, by rw [nth_app l x j h1]; exact h2⟩
theorem hole_app {l : List Du} (h : HeapL l) (x : Du) : HoleL (l ++ [x]) l.length := by
  refine ⟨fun j j0 j1 jn jp => ?_, fun _ j j0 j1 jp => ?_⟩
  · have hj : j < l.length := by simp at j1; omega
    have hp : par j < l.length := by unfold par; omega
    rw [nth_app l x j hj, nth_app l x _ hp]
    exact h j j0 hj
  · exfalso
    simp at j1
    unfold par at jp
    omega
set_option maxHeartbeats 4000000 in
set_option maxRecDepth 100000 in
theorem put_any (B h pb mb : Nat) (v : Value) (l : List Du) (s : Nat) (m : Pf) (x : Du) (w : World) (H : Hv B w h pb mb v l s m) (hx : okD x) (hl : l.length ≤ 4500) (hs : s ≤ 5000) (hB : B ≤ w.heap.size)
    (hh : HeapL l) (hok : ∀ y ∈ l, okD y) (htie : ∀ j, j < l.length → m (nth l j).2 = some j) (hnx : ∀ y ∈ l, y.2 ≠ x.2) :
    Calls Try.prog 32 #[.pointer (some ⟨h, 0, none⟩), dV x] w fun e w' => e = .returned (.tuple #[]) ∧
      ∃ l' m' g cp, Settled (l ++ [x]) m l.length x l' m' ∧ Hs w' h pb mb g cp l' (if (m x.2).isSome then s else s + 1) m' ∧ Chg (fun k => k = h ∨ k = mb ∨ v.ownBlock = some k) w w' ∧ B ≤ g ∧ (v.ownBlock = some g ∨ w.heap.size ≤ g) := by
  obtain ⟨i0, hi, hz0, hz1, hz2⟩ := info_parts d_info
  obtain ⟨xa, xo, xf⟩ := x
  dsimp only
  generalize es : (if (m (xo, xf)).isSome then s else s + 1) = s'
  replace es := hid0 es
  have k3 := Bk.new w 32 (dL (xa, xo, xf))
  have gg := (Gr.refl w).alloc (.cells (dL (xa, xo, xf)).toArray 32)
  have H1 := H.gr gg
  have hvb := fun g e => (row_lt H.row (g := g) e).1
  dsimp only [dL] at k3 gg H1
  clear H
  go_enter Try.func32, Try.ntmps32
  go_upto_region 1 with fail
  generalize w.alloc _ = W at *
  obtain ⟨b3, e3⟩ : ∃ b3, b3 = w.heap.size := ⟨_, rfl⟩
  rw [← e3] at k3 ⊢
  have hb3 : w.heap.size ≤ b3 := by omega
  clear e3
  have gd : Gr W ((W.alloc (.cells #[.int .u32 xa, .int .u32 xo, .int .u32 xf] 32)).drew) := ((Gr.refl W).alloc _).drew
  have kN : Bk ((W.alloc (.cells #[.int .u32 xa, .int .u32 xo, .int .u32 xf] 32)).drew) W.heap.size 32 [.int .u32 xa, .int .u32 xo, .int .u32 xf] := Bk.new W 32 [.int .u32 xa, .int .u32 xo, .int .u32 xf]
  obtain ⟨v', w', hr, h2, h3, h4, h5⟩ := run_append_own_at (P := Try.prog) ((W.alloc (.cells #[.int .u32 xa, .int .u32 xo, .int .u32 xf] 32)).drew) B 36 36 32 i0 (.agg #[.int .u32 0, .int .u32 0, .int .u32 0]) 3 12 Try.underlying36 hi hz0 hz1 hz2 rfl (by decide) v l.length (flat l) (H1.gr gd).row ⟨W.heap.size, 0, none⟩ 1 1 (dL (xa, xo, xf)) rfl
    (by intro j u hj; rw [← hj, Addr.add_lit, Nat.zero_add]; exact kN.at j) (dL_cell _) (by unfold maxLen; omega) (by omega) (Nat.le_trans hB (gg.trans gd).size)
  obtain ⟨g1, c1, hv'⟩ : ∃ g c, v' = .slice (some ⟨g, 0, none⟩) (l.length + 1) c := by
    rcases h2.2 with ⟨_, e⟩ | ⟨g, c, cur, e, _⟩
    · omega
    · exact ⟨g, c, e⟩
  subst hv'
  have hgh : g1 ≠ h := fun e => by
    obtain ⟨_, _, cur, hr⟩ := row_lt h2 (g := g1) rfl
    have hne := (H1.gr gd).ne.2.2
    have kh := ((H1.gr gd).heap.same (h3.block h (H1.gr gd).heap.lt (fun e' => (hne h e'.symm).1 rfl)))
    rw [e] at hr
    have := bk_ty kh hr
    cases this
  have kA : Bk w' h 62 (hC v pb) := (H1.gr gd).heap.same (h3.block h (H1.gr gd).heap.lt (fun e' => ((H1.gr gd).ne.2.2 h e'.symm).1 rfl))
  have cA : Bk w' pb 52 [.map (some mb)] := (H1.gr gd).cap.same (h3.block pb (H1.gr gd).cap.lt (fun e' => ((H1.gr gd).ne.2.2 pb e'.symm).2.1 rfl))
  have mA : MapF w' mb s m := (H1.gr gd).map.same (h3.block mb (H1.gr gd).map.lt (fun e' => ((H1.gr gd).ne.2.2 mb e'.symm).2.2 rfl))
  have hvW : ∀ g, v.ownBlock = some g → g < W.heap.size := fun g e => (row_lt H1.row e).1
  have k3A : Bk w' b3 32 [.int .u32 xa, .int .u32 xo, .int .u32 xf] := (k3.gr gd).same (h3.block b3 (k3.gr gd).lt (fun e' => by have := hvb b3 e'.symm; omega))
  have q0 := kA.at 0
  have q1 := kA.frozen 0
  simp only [List.getElem?_cons_zero, List.getElem?_cons_succ] at q0
  have p0 := H1.heap.at 0
  have p1 := (H1.gr ((Gr.refl W).alloc (.cells #[.int .u32 xa, .int .u32 xo, .int .u32 xf] 32))).heap.at 0
  simp only [List.getElem?_cons_zero, List.getElem?_cons_succ] at p0 p1
  have x0 := k3.at 0
  have x1 := k3.at 1
  have x2 := k3.at 2
  simp only [List.getElem?_cons_zero, List.getElem?_cons_succ] at x0 x1 x2
  have HR := hid0 hr
  have H2 := hid0 h2
  have H3 := hid0 h3
  have H5 := hid0 h5
  have KA := hid0 kA
  have CA := hid0 cA
  have MA := hid0 mA
  have K3A := hid0 k3A
  have GD := hid0 gd
  have HGH := hid0 hgh
  clear hr h2 h3 h4 h5 kN kA cA mA k3A gd hgh k3 hi hz0 hz1 hz2
  go_region_law (refine step_append_run rfl (.tmp 8) (.tmp 10) 36 rfl v (.slice (some ⟨W.heap.size, 0, none⟩) 1 1) _ _ (by simp [Act.eval, Act.put]) (by simp [Act.eval, Act.put]) HR.out ?_)
  all_goals
    have hbh : b3 ≠ h := fun e => by
      have := K3A.out
      rw [e] at this
      have := bk_ty KA.out this
      cases this
    have hpb : pb ≠ h := fun e => by
      have := CA.out
      rw [e] at this
      have := bk_ty KA.out this
      cases this
    have hmb : mb ≠ h := fun e => by
      obtain ⟨es, c, hm⟩ := MA.out.isMap
      rw [e] at hm
      exact bk_map KA.out hm
    have HX : Hv B (w'.setCell ⟨h, 0, none⟩ (.slice (some ⟨g1, 0, none⟩) (l.length + 1) c1)) h pb mb (.slice (some ⟨g1, 0, none⟩) (l ++ [(xa, xo, xf)]).length c1) (l ++ [(xa, xo, xf)]) s m := by
      refine ⟨?_, CA.out.other (a := ⟨h, 0, none⟩) hpb _, ?_, MA.out.same (Below.heap_setCell _ _ _ _ hmb)⟩
      · have := KA.out.set 0 (.slice (some ⟨g1, 0, none⟩) (l.length + 1) c1)
        simp only [List.set_cons_zero] at this
        rw [List.length_append]
        exact this
      · rw [List.length_append, flat_app]
        refine row_keep (v := .slice (some ⟨g1, 0, none⟩) (l.length + 1) c1) ?_ (fun g e => Below.heap_setCell _ _ _ _ (by cases e; exact HGH.out))
        exact H2.out
    have CX : Hid (Chg (fun k => k = h ∨ k = mb ∨ v.ownBlock = some k) w (w'.setCell ⟨h, 0, none⟩ (.slice (some ⟨g1, 0, none⟩) (l.length + 1) c1))) :=
      ((Chg.of_gr (gg.trans GD.out)).trans ((Chg.grownR H3.out).wide (fun k _ e => .inr (.inr e)))).trans (Chg.set _ (a := ⟨h, 0, none⟩) (.inl rfl) _)
    have K3X := K3A.out.other (a := ⟨h, 0, none⟩) hbh (.slice (some ⟨g1, 0, none⟩) (l.length + 1) c1)
    have HG1 : Hid (v.ownBlock = some g1 ∨ w.heap.size ≤ g1) := by
      rcases H5.out with e | e
      · exact .inl e.symm
      · right
        have := gg.size
        simp only [Value.ownBlock, Option.some.injEq] at e
        rw [e]
        show w.heap.size ≤ (W.alloc _).heap.size
        rw [World.size_alloc]
        omega
    obtain ⟨HS, hBg, _⟩ := HX.hs
    replace HS := hid0 HS
    clear HR H2 H3 H5 KA CA MA K3A GD HGH q0 q1 p0 p1 x0 x1 x2 gg HX
    generalize World.setCell _ _ _ = X at *
    have ST := settle_any h pb mb g1 c1 (l ++ [(xa, xo, xf)]) s m (xa, xo, xf) l.length
    have hlen : (l ++ [(xa, xo, xf)]).length = l.length + 1 := by simp
    have c0 := fun n => below_cell (HS.out.heap.at 0) ((Gr.refl X).drewN n).below
    have x0 := fun n => below_cell (K3X.at 0) ((Gr.refl X).drewN n).below
    have x1 := fun n => below_cell (K3X.at 1) ((Gr.refl X).drewN n).below
    have x2 := fun n => below_cell (K3X.at 2) ((Gr.refl X).drewN n).below
    rw [hlen] at c0
    go_wp2_with fail
    obtain ⟨nF, hnF⟩ : ∃ nF : Nat, 5 ≤ nF := ⟨5, by omega⟩
    refine (wpIn_wide (n := nF)).1 ?_
    refine region_head_lit 8 (by kernel_rfl) (by kernel_rfl) (by simp) (by kernel_rfl) ?_
    simp only [List.take_succ_cons, List.take_zero, List.drop_succ_cons, List.drop_zero]
    repeat (gi_big_quiet_step (fail))
    refine wpQuietIn_nil ?_
    intro _ hw'
    obtain ⟨q2, rfl⟩ := hw'
    have gq := (Gr.refl X).drewN q2
    replace HS := hid0 (HS.out.gr gq)
    replace CX := hid0 (CX.out.gr gq)
    clear c0 x0 x1 x2 K3X gq
    generalize X.drewN q2 = X2 at *
    replace ST := (ST X2 HS.out hx (by omega) (by omega) hs (hole_app hh _) (fun y hy => hok y ((oth_app _ _ _).1 hy)) (fun j hj hne => by rw [nth_app _ _ _ (by omega)]; exact htie j (by omega)) (fun y hy => hnx y ((oth_app _ _ _).1 hy)))
    simp only [es.out] at ST
    replace ST := hid0 ST
    have h1n : 1 ≤ nF := by omega
    gi_wp2_with fail
    refine (callsIn_wide.2 ST.out).mono ?_
    rintro e w4 ⟨rfl, l', m', h1, h2, h3⟩
    replace h1 := hid0 h1
    replace h2 := hid0 h2
    have h4 : Hid (Chg (fun k => k = h ∨ k = mb ∨ v.ownBlock = some k) w w4) := CX.out.next h3 (fun k hk e => by
      rcases e with e | e
      · rcases HG1.out with h | h
        · exact .inr (.inr (by rw [h, e]))
        · omega
      · exact .inr (.inl e))
    clear ST CX HS h3
    gi_wp2
    go_wp2
    go_end0
    exact ⟨rfl, l', m', g1, c1, h1.out, h2.out, h4.out, hBg, HG1.out⟩
end Go.Proofs.Ytaapdkjmlplhgaa
