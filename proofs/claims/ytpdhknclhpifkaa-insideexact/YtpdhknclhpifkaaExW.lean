/- The law InsideExact, walked. -/
import Derived.Test.YtpdhknclhpifkaaWh
import Derived.Test.YtpdhknclhpifkaaLst2
namespace Go.Proofs.Ytpdhknclhpifkaa
open Go.RowKit Go.Shelf Go.Sort

theorem below_grown {w w' : World} (h : Below w.heap.size w w') : w.grownBy w' none := ⟨h.os, h.tape, h.output, h.size, fun k hk _ => h.block k hk⟩
theorem ownsRow_below {B : Nat} {e : TypeId} {k : Nat} {v : Value} {n : Nat} {xs : List Value} {w w' : World} (h : w.ownsRow B e k v n xs) (hb : Below w.heap.size w w') : w'.ownsRow B e k v n xs :=
  h.kept (below_grown hb) (by cases v.ownBlock <;> simp)
theorem row_base {w : World} {base base' : Nat} {e : TypeId} {size : Nat} {v : Value} {n : Nat} {xs : List Value} (h : w.ownsRow base e size v n xs) (hb : base' ≤ base) : w.ownsRow base' e size v n xs :=
  ⟨h.1, h.2.imp id fun ⟨g, cap, cur, e1, e2, r⟩ => ⟨g, cap, cur, e1, Nat.le_trans hb e2, r⟩⟩
abbrev hv (h : Hole) : Value := .slice h.1 h.2.2.length h.2.1
abbrev Row31 (W : World) (g cap : Nat) (l : List (Int × Int)) : Prop := W.ownsRow 0 31 2 (.slice (some ⟨g, 0, none⟩) (l ++ marks 20).length cap) (l ++ marks 20).length (flat (l ++ marks 20))
theorem row_bounds {W : World} {g cap : Nat} {l : List (Int × Int)} (h : Row31 W g cap l) : l.length + 20 ≤ cap ∧ cap ≤ maxLen := by
  rcases h.2 with ⟨e, _⟩ | ⟨g', cap', cur, e, _, _, h3, h4, _⟩
  · cases e
  · cases e
    rw [List.length_append, marks_len] at h3
    exact ⟨h3, h4⟩
theorem row_ne {W : World} {g cap : Nat} {l : List (Int × Int)} (h : Row31 W g cap l) {base k : Nat} {v : Value} {xs : List Value} (hr : W.ownsRow base 22 1 v k xs) : (Value.slice (some ⟨g, 0, none⟩) (l ++ marks 20).length cap).ownBlock ≠ v.ownBlock := by
  rcases h.2 with ⟨e, _⟩ | ⟨g', cap', cur, e, _, hg, _⟩
  · cases e
  · cases e
    rcases hr.2 with ⟨rfl, _⟩ | ⟨b, c, cur', rfl, _, hb, _⟩
    · simp [Value.ownBlock]
    · intro e
      simp only [Value.ownBlock, Option.some.injEq] at e
      subst e
      rw [hg] at hb
      cases hb
/-- The holes that were lent, so far. -/
def LentH (W : World) (H' H : List Hole) : Prop := ∀ i, i < H'.length → (hAt H' i).2.2 = (hAt H i).2.2 ∧ ∃ g, (hAt H' i).1 = some ⟨g, 0, none⟩ ∧ Row31 W g (hAt H' i).2.1 (hAt H i).2.2
theorem LentH.below {W W' : World} {H' H : List Hole} (h : LentH W H' H) (g : Below W.heap.size W W') : LentH W' H' H := fun i hi => by
  obtain ⟨h1, b, h2, h3⟩ := h i hi
  exact ⟨h1, b, h2, ownsRow_below h3 g⟩
theorem hAt_app (H' : List Hole) (x : Hole) {i : Nat} (hi : i < H'.length) : hAt (H' ++ [x]) i = hAt H' i := by unfold hAt; simp [List.getD, List.getElem?_append_left hi]
theorem hAt_last (H' : List Hole) (x : Hole) : hAt (H' ++ [x]) H'.length = x := by unfold hAt; simp [List.getD]
theorem LentH.push {W : World} {H' H : List Hole} (h : LentH W H' H) {g cap : Nat} (hr : Row31 W g cap (hAt H H'.length).2.2) : LentH W (H' ++ [(some ⟨g, 0, none⟩, cap, (hAt H H'.length).2.2)]) H := fun i hi => by
  by_cases hlt : i < H'.length
  · rw [hAt_app H' _ hlt]; exact h i hlt
  · have : i = H'.length := by simp at hi; omega
    subst this
    rw [hAt_last]
    exact ⟨rfl, g, rfl, hr⟩
theorem LentH.grown {W W' : World} {H' H : List Hole} (h : LentH W H' H) {base k : Nat} {v : Value} {xs : List Value} (hr : W.ownsRow base 22 1 v k xs) (hg : W.grownBy W' v.ownBlock) : LentH W' H' H := fun i hi => by
  obtain ⟨h1, b, h2, h3⟩ := h i hi
  exact ⟨h1, b, h2, h3.kept hg (.inr (row_ne h3 hr))⟩
theorem Row31.pts {W : World} {g cap : Nat} {l : List (Int × Int)} (h : Row31 W g cap l) : Pts W (some ⟨g, 0, none⟩) (l ++ marks 20) := Pts.of_own h
/-- What the holes' own row reads. -/
theorem LentH.hls {W : World} {H' H : List Hole} (h : LentH W H' H) {base b cap : Nat} (hr : W.ownsRow base 22 1 (.slice (some ⟨b, 0, none⟩) H'.length cap) H'.length (H'.map hv)) : Hls W (some ⟨b, 0, none⟩) H' := fun i hi => by
  obtain ⟨h1, g, h2, h3⟩ := h i hi
  refine ⟨b, 0, rfl, ?_, ?_⟩
  · have := hr.cellAt i (by simpa using hi)
    rw [Nat.zero_add, this, List.getElem?_map, List.getElem?_eq_getElem hi]
    simp [hAt, List.getD, hi, hv]
  · rw [h2, h1]; exact h3.pts.left
theorem noneB_congr {p : Int × Int} {H' H : List Hole} (h : ∀ i, i < H'.length → (hAt H' i).2.2 = (hAt H i).2.2) : ∀ k, k ≤ H'.length → noneB p H' k = noneB p H k := by
  intro k
  induction k with
  | zero => intro _; rfl
  | succ k ih => intro hk; rw [noneB_succ, noneB_succ, ih (by omega), h k (by omega)]
theorem Try.info22 : (Try.prog.info? 22).map (fun i => (i.zero, i.size, i.bytes)) = some (some (.slice none 0 0), 1, 24) := by kernel_rfl
/-- A block of the argument. -/
def AskB (W : World) (b : Nat) (r h : Value) (p : Int × Int) : Prop := W.heap[b]? = some (.cells #[r, h, .int .i32 p.1, .int .i32 p.2] 53 (0, 0))
section
variable {W : World} {b : Nat} {r h : Value} {p : Int × Int}
theorem AskB.lt (k : AskB W b r h p) : b < W.heap.size := (Array.getElem?_eq_some_iff.1 k).1
theorem AskB.c0 (k : AskB W b r h p) : W.cell? ⟨b, 0, none⟩ = some r := by unfold AskB at k; simp [World.cell?, k]
theorem AskB.c1 (k : AskB W b r h p) : W.cell? ⟨b, 1, none⟩ = some h := by unfold AskB at k; simp [World.cell?, k]
theorem AskB.c2 (k : AskB W b r h p) : W.cell? ⟨b, 2, none⟩ = some (.int .i32 p.1) := by unfold AskB at k; simp [World.cell?, k]
theorem AskB.c3 (k : AskB W b r h p) : W.cell? ⟨b, 3, none⟩ = some (.int .i32 p.2) := by unfold AskB at k; simp [World.cell?, k]
theorem AskB.mono {W' : World} (k : AskB W b r h p) (g : Below W.heap.size W W') : AskB W' b r h p := by unfold AskB; rw [g.block b k.lt]; exact k
end
theorem AskB.new (w : World) (r h : Value) (p : Int × Int) : AskB (w.alloc (.cells #[r, h, .int .i32 p.1, .int .i32 p.2] 53)) w.heap.size r h p := World.alloc_heap_new w _

set_option maxRecDepth 100000 in
set_option maxHeartbeats 16000000 in
theorem exact_walk (ro : Option Addr) (rc : Nat) (L : List (Int × Int)) (hL : All32 L) (hlen : L.length ≤ 17592186043904) (hn : ro = none → L.length = 0 ∧ rc = 0)
    (ho : Option Addr) (hc : Nat) (H : List Hole) (hH : OkH H) (hHl : H.length ≤ 5864062014634) (hHn : ∀ i, (hAt H i).1 = none → (hAt H i).2.2.length = 0 ∧ (hAt H i).2.1 = 0) (p : Int × Int) (hp : P32 p) (w : World) (hP : Pts w ro L) (hQ : Hls w ho H) :
    Calls Try.prog 7 #[.agg #[.slice ro L.length rc, .slice ho H.length hc, .int .i32 p.1, .int .i32 p.2]] w fun e w' => e = .returned (.bool true) ∧ Below w.heap.size w w' := by
  obtain ⟨i0, hi, hz0, hz1, hz2⟩ := info_parts Try.info22
  have g0 : Gr w (w.alloc (.cells #[.slice ro L.length rc, .slice ho H.length hc, .int .i32 p.1, .int .i32 p.2] 53)) := (Gr.refl _).alloc _
  have kx := AskB.new w (.slice ro L.length rc) (.slice ho H.length hc) p
  have hP1 := hP.mono g0.below
  have hQ1 := hQ.mono g0.below
  go_enter Try.func7, Try.ntmps7
  go_upto_region 1 with fail
  generalize w.alloc (.cells #[.slice ro L.length rc, .slice ho H.length hc, .int .i32 p.1, .int .i32 p.2] 53) = w1 at *
  have x0 := kx.c0
  have x1 := kx.c1
  have x2 := kx.c2
  have x3 := kx.c3
  have L1 : Hid (Calls Try.prog 29 #[.slice ro L.length rc] w1 fun e w' => ∃ g cap, e = .returned (.slice (some ⟨g, 0, none⟩) L.length cap) ∧ w'.ownsRow w1.heap.size 31 2 (.slice (some ⟨g, 0, none⟩) (L ++ marks 20).length cap) (L ++ marks 20).length (flat (L ++ marks 20)) ∧ Below w1.heap.size w1 w') := lent_any ro rc L w1 hlen hn hP1
  go_wp2_with (go_at_call 29; refine L1.out.mono ?_; rintro e w2 ⟨g2, cap2, rfl, O2, hb2⟩)
  have row2 : Row31 w2 g2 cap2 L := row_base O2 (Nat.zero_le _)
  obtain ⟨hcap, hmax⟩ := row_bounds row2
  have PV : Pts w2 (some ⟨g2, 0, none⟩) L := row2.pts.left
  have PR : Pts w2 ro L := hP1.mono hb2
  have QR : Hls w2 ho H := hQ1.mono hb2
  have k2 := kx.mono hb2
  have hBw2 : Below w.heap.size w w2 := g0.below.trans (hb2.mono g0.size)
  have E1 : Hid (∀ W, Below w2.heap.size w2 W → ∀ d os, Calls Try.prog 30 #[.slice (some ⟨g2, 0, none⟩) L.length cap2, pt p.1 p.2] (grow (redrawn W d) os) fun e w' => e = .returned (.bool (edgeL L p)) ∧ ∃ q : Regrown, w' = grow (redrawn W q.d) q.os) := fun W hW d os => Calls.regrown_of (edge_any _ _ L hL hlen p hp _ ((PV.mono hW).mono (below_regrown W d os)))
  have E2 : Hid (∀ W, Below w2.heap.size w2 W → ∀ d os, Calls Try.prog 31 #[.slice ro L.length rc, pt p.1 p.2] (grow (redrawn W d) os) fun e w' => e = .returned (.bool (edgeL L p)) ∧ ∃ q : Regrown, w' = grow (redrawn W q.d) q.os) := fun W hW d os => Calls.regrown_of (redge_any _ _ L hL hlen p hp _ ((PR.mono hW).mono (below_regrown W d os)))
  have C1 : Hid (∀ W, Below w2.heap.size w2 W → ∀ d os, Calls Try.prog 32 #[.slice (some ⟨g2, 0, none⟩) L.length cap2, pt p.1 p.2] (grow (redrawn W d) os) fun e w' => e = .returned (.int .i64 (sumZ (crossI p) L L.length)) ∧ ∃ q : Regrown, w' = grow (redrawn W q.d) q.os) := fun W hW d os => Calls.regrown_of (crossings_any _ _ L hL hlen p hp _ ((PV.mono hW).mono (below_regrown W d os)))
  have C2 : Hid (∀ W, Below w2.heap.size w2 W → ∀ d os, Calls Try.prog 33 #[.slice ro L.length rc, pt p.1 p.2] (grow (redrawn W d) os) fun e w' => e = .returned (.int .i64 (sumZ (crossI p) L L.length)) ∧ ∃ q : Regrown, w' = grow (redrawn W q.d) q.os) := fun W hW d os => Calls.regrown_of (rcrossings_any _ _ L hL hlen p hp _ ((PR.mono hW).mono (below_regrown W d os)))
  have V1 : Hid (∀ W, Below w2.heap.size w2 W → ∀ d os, Calls Try.prog 34 #[.slice (some ⟨g2, 0, none⟩) L.length cap2, pt p.1 p.2] (grow (redrawn W d) os) fun e w' => e = .returned (.bool (coversL L p)) ∧ ∃ q : Regrown, w' = grow (redrawn W q.d) q.os) := fun W hW d os => Calls.regrown_of (covers_any _ _ L hL hlen p hp _ ((PV.mono hW).mono (below_regrown W d os)))
  have V2 : Hid (∀ W, Below w2.heap.size w2 W → ∀ d os, Calls Try.prog 35 #[.slice ro L.length rc, pt p.1 p.2] (grow (redrawn W d) os) fun e w' => e = .returned (.bool (coversL L p)) ∧ ∃ q : Regrown, w' = grow (redrawn W q.d) q.os) := fun W hW d os => Calls.regrown_of (rcovers_any _ _ L hL hlen p hp _ ((PR.mono hW).mono (below_regrown W d os)))
  have N1 : Hid (∀ W, Below w2.heap.size w2 W → ∀ d os, Calls Try.prog 36 #[.slice (some ⟨g2, 0, none⟩) L.length cap2, pt p.1 p.2] (grow (redrawn W d) os) fun e w' => e = .returned (.int .i64 (sumZ (pastI p) L L.length)) ∧ ∃ q : Regrown, w' = grow (redrawn W q.d) q.os) := fun W hW d os => Calls.regrown_of (winding_any _ _ L hL hlen p hp _ ((PV.mono hW).mono (below_regrown W d os)))
  have N2 : Hid (∀ W, Below w2.heap.size w2 W → ∀ d os, Calls Try.prog 37 #[.slice ro L.length rc, pt p.1 p.2] (grow (redrawn W d) os) fun e w' => e = .returned (.int .i64 (sumZ (pastI p) L L.length)) ∧ ∃ q : Regrown, w' = grow (redrawn W q.d) q.os) := fun W hW d os => Calls.regrown_of (rwinding_any _ _ L hL hlen p hp _ ((PR.mono hW).mono (below_regrown W d os)))
  have LF : Hid (∀ W, Below w2.heap.size w2 W → ∀ d os, Calls Try.prog 40 #[.slice (some ⟨g2, 0, none⟩) L.length cap2, .slice ro L.length rc] (grow (redrawn W d) os) fun e w' => e = .returned (.bool true) ∧ ∃ q : Regrown, w' = grow (redrawn W q.d) q.os) := fun W hW d os => Calls.regrown_of ((left_true g2 cap2 ro rc L _ hlen hcap hmax ((row2.pts.mono hW).mono (below_regrown W d os)) ((PR.mono hW).mono (below_regrown W d os))).mono fun e w' h => ⟨h.1, h.2.below⟩)
  have HW : Hid (∀ W, Below w2.heap.size w2 W → ∀ d os, Calls Try.prog 39 #[.slice ro L.length rc, .slice ho H.length hc, pt p.1 p.2] (grow (redrawn W d) os) fun e w' => e = .returned (.bool (withL L H p)) ∧ ∃ q : Regrown, w' = grow (redrawn W q.d) q.os) := fun W hW d os => Calls.regrown_of (rwith_any _ _ L hL hlen _ _ H hH (by omega) p hp _ ((PR.mono hW).mono (below_regrown W d os)) ((QR.mono hW).mono (below_regrown W d os)))
  have HL : Hid (∀ W H' b cap, Below w2.heap.size w2 W → H'.length = H.length → LentH W H' H → W.ownsRow w2.heap.size 22 1 (.slice (some ⟨b, 0, none⟩) H'.length cap) H'.length (H'.map hv) → ∀ d os, Calls Try.prog 38 #[.slice (some ⟨g2, 0, none⟩) L.length cap2, .slice (some ⟨b, 0, none⟩) H.length cap, pt p.1 p.2] (grow (redrawn W d) os) fun e w' => e = .returned (.bool (withL L H p)) ∧ ∃ q : Regrown, w' = grow (redrawn W q.d) q.os) := fun W H' b cap hW hl hLH hrow d os => by
    have hok : OkH H' := fun i => by
      by_cases hi : i < H'.length
      · rw [(hLH i hi).1]; exact hH i
      · unfold hAt; rw [List.getD_eq_getElem?_getD, List.getElem?_eq_none (by omega)]
        exact ⟨fun q hq => (by cases hq), by simp⟩
    have hw : withL L H' p = withL L H p := by
      unfold withL
      rw [hl, noneB_congr (fun i hi => (hLH i hi).1) H.length (by omega)]
    have := with_any (some ⟨g2, 0, none⟩) cap2 L hL hlen (some ⟨b, 0, none⟩) cap H' hok (by omega) p hp (grow (redrawn W d) os) ((PV.mono hW).mono (below_regrown W d os)) ((hLH.hls hrow).mono (below_regrown W d os))
    rw [hw, hl] at this
    exact Calls.regrown_of this
  have HN : Hid (∀ W, Below w2.heap.size w2 W → H.length = 0 → ∀ d os, Calls Try.prog 38 #[.slice (some ⟨g2, 0, none⟩) L.length cap2, .slice none 0 0, pt p.1 p.2] (grow (redrawn W d) os) fun e w' => e = .returned (.bool (withL L H p)) ∧ ∃ q : Regrown, w' = grow (redrawn W q.d) q.os) := fun W hW h0 d os => by
    have hnil : H = [] := List.eq_nil_of_length_eq_zero h0
    subst hnil
    exact Calls.regrown_of (with_any (some ⟨g2, 0, none⟩) cap2 L hL hlen none 0 [] hH (by omega) p hp (grow (redrawn W d) os) ((PV.mono hW).mono (below_regrown W d os)) (fun i hi => by simp at hi))
  have LT : Hid (∀ W k, k < H.length → Below w2.heap.size w2 W → Calls Try.prog 29 #[hv (hAt H k)] W fun e w' => ∃ g cap, e = .returned (.slice (some ⟨g, 0, none⟩) (hAt H k).2.2.length cap) ∧ Row31 w' g cap (hAt H k).2.2 ∧ Below W.heap.size W w') := fun W k hk hW => by
    obtain ⟨_, _, _, _, hpk⟩ := (QR.mono hW) k hk
    refine (lent_any (hAt H k).1 (hAt H k).2.1 (hAt H k).2.2 W (hH k).2 (hHn k) hpk).mono ?_
    rintro e w' ⟨g, cap, rfl, h1, h2⟩
    exact ⟨g, cap, rfl, row_base h1 (Nat.zero_le _), h2⟩
  have LFK : Hid (∀ W H' k, k < H'.length → H'.length = H.length → Below w2.heap.size w2 W → LentH W H' H → ∀ d os, Calls Try.prog 40 #[hv (hAt H' k), hv (hAt H k)] (grow (redrawn W d) os) fun e w' => e = .returned (.bool true) ∧ ∃ q : Regrown, w' = grow (redrawn W q.d) q.os) := fun W H' k hk hl hW hLH d os => by
    obtain ⟨h1, g, h2, h3⟩ := hLH k hk
    obtain ⟨_, _, _, _, hpk⟩ := (QR.mono hW) k (by omega)
    obtain ⟨hc1, hc2⟩ := row_bounds h3
    have := left_true g (hAt H' k).2.1 (hAt H k).1 (hAt H k).2.1 (hAt H k).2.2 (grow (redrawn W d) os) (hH k).2 hc1 hc2 (h3.pts.mono (below_regrown W d os)) (hpk.mono (below_regrown W d os))
    unfold hv
    rw [h1, h2]
    exact Calls.regrown_of (this.mono fun e w' h => ⟨h.1, h.2.below⟩)
  have QC : Hid (∀ W k, k < H.length → Below w2.heap.size w2 W → ∃ b off, ho = some ⟨b, off, none⟩ ∧ W.cell? ⟨b, off + k, none⟩ = some (hv (hAt H k))) := fun W k hk hW => by
    obtain ⟨b, off, e, h1, _⟩ := (QR.mono hW) k hk
    exact ⟨b, off, e, h1⟩
  clear L1 O2 row2 PV PR QR hP hQ hP1 hQ1 hb2 kx x0 x1 x2 x3 g0 hcap hmax hn hHn hH hL hlen
  generalize edgeL L p = eB at *
  generalize sumZ (crossI p) L L.length = cI at *
  generalize coversL L p = vB at *
  generalize sumZ (pastI p) L L.length = nI at *
  generalize hwB : withL L H p = wB at *
  clear hwB
  generalize L.length = Ln at *
  have hB2 := Below.refl w2.heap.size w2
  have x0 := fun d os => cell_regrown k2.c0 d os
  have x1 := fun d os => cell_regrown k2.c1 d os
  have x2 := fun d os => cell_regrown k2.c2 d os
  have x3 := fun d os => cell_regrown k2.c3 d os
  go_wp2
  refine wp_region_quiet_below (by kernel_rfl) (by kernel_rfl) ?_
  repeat (go_big_quiet_step (first | exact E1.out _ hB2 _ _ | exact E2.out _ hB2 _ _ | exact C1.out _ hB2 _ _ | exact C2.out _ hB2 _ _))
  refine wpQuiet_nil ?_
  intro _ hw'
  obtain ⟨⟨dq, osq⟩, hw''⟩ := hw'
  subst hw''
  have hB3 := below_regrown w2 dq osq
  have k3 := k2.mono hB3
  generalize grow (redrawn w2 dq) osq = w3 at *
  clear E1 E2 C1 C2 x0 x1 x2 x3
  have x0 := fun d os => cell_regrown k3.c0 d os
  have x1 := fun d os => cell_regrown k3.c1 d os
  have x2 := fun d os => cell_regrown k3.c2 d os
  have x3 := fun d os => cell_regrown k3.c3 d os
  go_wp2
  refine wp_region_quiet_below (by kernel_rfl) (by kernel_rfl) ?_
  repeat (go_big_quiet_step (first | exact V1.out _ hB3 _ _ | exact V2.out _ hB3 _ _ | exact N1.out _ hB3 _ _ | exact N2.out _ hB3 _ _))
  refine wpQuiet_nil ?_
  intro _ hw'
  obtain ⟨⟨dq, osq⟩, hw''⟩ := hw'
  subst hw''
  have hB4' := below_regrown w3 dq osq
  have k4 := k3.mono hB4'
  have hB4 := hB3.trans (hB4'.mono hB3.size)
  generalize grow (redrawn w3 dq) osq = w4 at *
  clear V1 V2 N1 N2 x0 x1 x2 x3 k3 hB4'
  go_wp2
  go_loopw [4, 5] (fun s i wr => ∃ (k : Nat) (H' : List Hole), k ≤ H.length ∧ i = .int .i64 k ∧ H'.length = k ∧ wr.ownsRow w2.heap.size 22 1 s k (H'.map hv) ∧ Hid (LentH wr H' H) ∧ Below w2.heap.size w2 wr) (fun _ i _ => H.length - (intOf i).toNat)
  case atStart => exact ⟨0, [], by omega, rfl, rfl, World.ownsRow_nil _ _ _ _, (by intro i hi; simp at hi), hB4⟩
  case round =>
    clear hB4 hB3 k4 w3 w4
    obtain ⟨k, H', hk, rfl, hl', hown, hLH, hB⟩ := hrel
    have kr := k2.mono hB
    have x1 := kr.c1
    by_cases hlt : k < H.length
    · obtain ⟨b, off, rfl, c0⟩ := QC.out _ k hlt hB
      have HLT := LT.out wr k hlt hB
      have hsz := hB.size
      have HX : Hid (hAt H H'.length = hAt H k) := by unfold Hid; rw [hl']
      unfold hv at c0 HLT
      clear QC LT HN HL HW LF LFK
      have Hc : Hid (∃ y, y = hAt H k) := ⟨_, rfl⟩
      replace HLT : Hid (Calls Try.prog 29 #[.slice (hAt H k).1 (hAt H k).2.2.length (hAt H k).2.1] wr fun e w' => ∃ g cap, e = .returned (.slice (some ⟨g, 0, none⟩) (hAt H k).2.2.length cap) ∧ Row31 w' g cap (hAt H k).2.2 ∧ Below wr.heap.size wr w') := HLT
      obtain ⟨Y, hY⟩ : ∃ Y, Y = hAt H k := ⟨_, rfl⟩
      rw [← hY] at c0 HLT HX
      replace hY : Hid (Y = hAt H k) := hY
      go_wp2_with (first | (go_at_call 29; refine HLT.out.mono ?_; rintro e w5 ⟨g5, cap5, rfl, R5, hb5⟩; have hown5 := ownsRow_below hown hb5; have hLH5 := hLH.out.below hb5; have hs5 := hb5.size) | (at_builtin; refine wpList_append_own _ rfl (.tmp 61) (.tmp 68) 51 rfl w2.heap.size 22 i0 (.slice none 0 0) 1 24 Try.underlying51 hi hz0 hz1 hz2 rfl (by decide) _ k _ rfl (hown5.alloc _) ⟨w5.heap.size, 0, none⟩ 1 1 [.slice (some ⟨g5, 0, none⟩) Y.2.2.length cap5] rfl rfl (cell_one_new _ _ _) (by simp [Value.oneCell']) (by unfold maxLen; omega) (by omega) (by simp; omega) ?_; intro sv w6 hown6 hgrow _))
      have hg6 : (w5.alloc (.cells #[.slice (some ⟨g5, 0, none⟩) Y.2.2.length cap5] 22)).grownBy w6 u4.ownBlock := hgrow
      have hpu := hLH5.push (g := g5) (cap := cap5) (by rw [HX.out]; exact R5)
      rw [HX.out] at hpu
      have hB5 := hB.trans (hb5.mono hB.size)
      refine ⟨⟨k + 1, H' ++ [(some ⟨g5, 0, none⟩, cap5, Y.2.2)], by omega, by go_num, by simp [hl'], by rw [List.map_append]; exact hown6, ?_, ?_⟩, by simp [intOf]; omega⟩
      · exact (hpu.below ((Gr.refl _).alloc _).below).grown (hown5.alloc _) hg6
      · exact (hB5.alloc hB5.size _).grown hg6 (by simp; omega) (fun j hj => (hown5.lt j hj).1)
    · have hkn : k = H.length := by omega
      clear hlt LT
      subst hkn
      clear hk
      rcases hown.2 with ⟨rfl, h00⟩ | ⟨b, cap, cur, rfl, hrest⟩
      · clear hown LFK QC HL hl' hLH
        generalize H.length = Hn at *
        subst h00
        replace HN : Hid (∀ W, Below w2.heap.size w2 W → ∀ d os, Calls Try.prog 38 #[.slice (some ⟨g2, 0, none⟩) Ln cap2, .slice none 0 0, pt p.1 p.2] (grow (redrawn W d) os) fun e w' => e = .returned (.bool wB) ∧ ∃ q : Regrown, w' = grow (redrawn W q.d) q.os) := fun W hW d os => HN.out W hW rfl d os
        have x0 := fun d os => cell_regrown kr.c0 d os
        have x1 := fun d os => cell_regrown kr.c1 d os
        have x2 := fun d os => cell_regrown kr.c2 d os
        have x3 := fun d os => cell_regrown kr.c3 d os
        go_wp2
        refine wp_region_quiet_below (by kernel_rfl) (by kernel_rfl) ?_
        repeat (go_big_quiet_step (first | exact HN.out _ hB _ _ | exact HW.out _ hB _ _ | exact LF.out _ hB _ _))
        refine wpQuiet_nil ?_
        intro _ hw'
        obtain ⟨⟨dq, osq⟩, hw''⟩ := hw'
        subst hw''
        have hB5' := below_regrown wr dq osq
        have hB5 := hB.trans (hB5'.mono hB.size)
        generalize grow (redrawn wr dq) osq = w5 at *
        clear x0 x1 x2 x3 kr
        go_wp2
        go_loopw [6] (fun i wr => i = .int .i64 0 ∧ Below w2.heap.size w2 wr) (fun _ _ => 0)
        case atStart => exact ⟨rfl, hB5⟩
        case round =>
          obtain ⟨rfl, hB6⟩ := hrel
          go_wp2
          go_ret
          exact ⟨rfl, hBw2.trans (hB6.mono hBw2.size)⟩
      · clear hrest
        have HLk : ∀ d os, Calls Try.prog 38 #[.slice (some ⟨g2, 0, none⟩) Ln cap2, .slice (some ⟨b, 0, none⟩) H.length cap, pt p.1 p.2] (grow (redrawn wr d) os) fun e w' => e = .returned (.bool wB) ∧ ∃ q : Regrown, w' = grow (redrawn wr q.d) q.os := HL.out wr H' b cap hB hl' hLH.out (by rw [hl']; exact hown)
        replace HLk : Hid (∀ d os, Calls Try.prog 38 #[.slice (some ⟨g2, 0, none⟩) Ln cap2, .slice (some ⟨b, 0, none⟩) H.length cap, pt p.1 p.2] (grow (redrawn wr d) os) fun e w' => e = .returned (.bool wB) ∧ ∃ q : Regrown, w' = grow (redrawn wr q.d) q.os) := HLk
        have x0 := fun d os => cell_regrown kr.c0 d os
        have x1 := fun d os => cell_regrown kr.c1 d os
        have x2 := fun d os => cell_regrown kr.c2 d os
        have x3 := fun d os => cell_regrown kr.c3 d os
        go_wp2
        refine wp_region_quiet_below (by kernel_rfl) (by kernel_rfl) ?_
        repeat (go_big_quiet_step (first | exact HLk.out _ _ | exact HW.out _ hB _ _ | exact LF.out _ hB _ _))
        refine wpQuiet_nil ?_
        intro _ hw'
        obtain ⟨⟨dq, osq⟩, hw''⟩ := hw'
        subst hw''
        have hB5' := below_regrown wr dq osq
        have hB5 := hB.trans (hB5'.mono hB.size)
        have hown5 := ownsRow_below hown hB5'
        have hLH5 : Hid (LentH (grow (redrawn wr dq) osq) H' H) := hLH.out.below hB5'
        generalize grow (redrawn wr dq) osq = w5 at *
        clear x0 x1 x2 x3 kr
        go_wp2
        clear hB hown hLH HLk HL HW HN LF hB5'
        go_loopw [6] (fun i wr => ∃ k : Nat, k ≤ H.length ∧ i = .int .i64 k ∧ wr.ownsRow w2.heap.size 22 1 (.slice (some ⟨b, 0, none⟩) H.length cap) H.length (H'.map hv) ∧ Hid (LentH wr H' H) ∧ Below w2.heap.size w2 wr) (fun i _ => H.length - (intOf i).toNat)
        case atStart => exact ⟨0, by omega, rfl, hown5, hLH5, hB5⟩
        case round =>
          clear hown5 hLH5 hB5
          obtain ⟨k, hk, rfl, hown, hLH, hB⟩ := hrel
          by_cases hlt : k < H.length
          · obtain ⟨b', off', rfl, c0⟩ := QC.out _ k hlt hB
            have LK : Hid (∀ d os, Calls Try.prog 40 #[hv (hAt H' k), hv (hAt H k)] (grow (redrawn wr d) os) fun e w' => e = .returned (.bool true) ∧ ∃ q : Regrown, w' = grow (redrawn wr q.d) q.os) := LFK.out wr H' k (by omega) hl' hB hLH.out
            have h0 : wr.cell? ⟨b, k, none⟩ = some (hv (hAt H' k)) := by
              have := hown.cellAt k (by omega)
              rw [this, List.getElem?_map, List.getElem?_eq_getElem (by omega)]
              simp [hAt, List.getD, show k < H'.length by omega]
            have kr := k2.mono hB
            have x1 := fun d os => cell_regrown kr.c1 d os
            unfold hv at c0 h0 LK
            have d0 := fun d os => cell_regrown c0 d os
            have e0 := fun d os => cell_regrown h0 d os
            clear QC LFK kr c0 h0
            generalize (hAt H' k).1 = a1 at *
            generalize (hAt H' k).2.2.length = n1 at *
            generalize (hAt H' k).2.1 = c1 at *
            generalize (hAt H k).1 = a2 at *
            generalize (hAt H k).2.2.length = n2 at *
            generalize (hAt H k).2.1 = c2 at *
            go_wp2
            refine wp_region_quiet_below (by kernel_rfl) (by kernel_rfl) ?_
            repeat (go_big_quiet_step (first | exact LK.out _ _))
            refine wpQuiet_nil ?_
            intro _ hw'
            obtain ⟨⟨dq, osq⟩, hw''⟩ := hw'
            subst hw''
            have hB7' := below_regrown wr dq osq
            have hB7 := hB.trans (hB7'.mono hB.size)
            have hown7 := ownsRow_below hown hB7'
            have hLH7 : Hid (LentH (grow (redrawn wr dq) osq) H' H) := hLH.out.below hB7'
            generalize grow (redrawn wr dq) osq = w7 at *
            go_wp2
            go_roundw
            case rel => exact ⟨k + 1, by omega, by go_num, hown7, hLH7, hB7⟩
            case measure => simp [intOf]; omega
          · have hkn : k = H.length := by omega
            subst hkn
            go_wp2
            go_ret
            exact ⟨rfl, hBw2.trans (hB.mono hBw2.size)⟩
end Go.Proofs.Ytpdhknclhpifkaa
