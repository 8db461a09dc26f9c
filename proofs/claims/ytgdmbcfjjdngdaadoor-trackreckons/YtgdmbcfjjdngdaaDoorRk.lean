/- TrackReckons' walk. -/
import Derived.Test.YtgdmbcfjjdngdaaDoorRh
import Derived.Test.YtgdmbcfjjdngdaaDoorWy
import Derived.Laws.AppendOwnNone
import Derived.Maps.AppendAt
set_option linter.unusedSimpArgs false
set_option linter.unusedVariables false
namespace Go.Proofs.YtgdmbcfjjdngdaaDoor
open Go.RowKit Go.Sort Ieee
theorem run7 (n : Int) (w : World) : (callFunc 7 #[.int .u64 n]).run Tryd.prog w = .ok (.value (.float .f64 n.toNat)) w := by
  rw [run_callFunc_extern Tryd.func7 (by kernel_rfl) (by kernel_rfl) (by kernel_rfl) (e := Extern.MathFloatBits.float64frombits) (by kernel_rfl)]
  rfl
/-- An Ask as a value. -/
abbrev aV (o x y u v t0 t : Int) (l : Value) : Value := .agg #[.int .u64 o, .int .i32 x, .int .i32 y, .int .i32 u, .int .i32 v, .int .u32 t0, .int .u32 t, l]
abbrev aL (o x y u v t0 t : Int) (l : Value) : List Value := [.int .u64 o, .int .i32 x, .int .i32 y, .int .i32 u, .int .i32 v, .int .u32 t0, .int .u32 t, l]

/-- Points as cells. -/
def flP (l : List (Int × Int)) : List Value := l.flatMap fun x => [.int .i32 x.1, .int .i32 x.2]
theorem flP_len (l : List (Int × Int)) : (flP l).length = l.length * 2 := by
  induction l with
  | nil => rfl
  | cons x r ih =>
    show ([Value.int .i32 x.1, .int .i32 x.2] ++ flP r).length = _
    rw [List.length_append, ih, List.length_cons, List.length_cons, List.length_cons, List.length_nil]
    omega
theorem flP_at : ∀ (l : List (Int × Int)) (k : Nat) (x : Int × Int), l[k]? = some x → (flP l)[k * 2]? = some (.int .i32 x.1) ∧ (flP l)[k * 2 + 1]? = some (.int .i32 x.2)
  | [], _, _, h => by simp at h
  | y :: r, 0, x, h => by
    simp at h
    subst h
    exact ⟨rfl, rfl⟩
  | y :: r, k + 1, x, h => by
    have := flP_at r k x (by simpa using h)
    show ([Value.int .i32 y.1, .int .i32 y.2] ++ flP r)[(k + 1) * 2]? = _ ∧ ([Value.int .i32 y.1, .int .i32 y.2] ++ flP r)[(k + 1) * 2 + 1]? = _
    rw [show (k + 1) * 2 = k * 2 + 1 + 1 from by omega]
    exact this
theorem flP_one (l : List (Int × Int)) : ∀ u ∈ flP l, u.oneCell' = true := by
  intro u hu
  simp only [flP, List.mem_flatMap, List.mem_cons, List.not_mem_nil, or_false] at hu
  obtain ⟨x, _, rfl | rfl⟩ := hu <;> rfl
theorem flP_of {l : List (Int × Int)} {j : Nat} {u : Value} (h : (flP l)[j]? = some u) : ∃ x, l[j / 2]? = some x ∧ (j % 2 = 0 ∧ u = .int .i32 x.1 ∨ j % 2 = 1 ∧ u = .int .i32 x.2) := by
  have hj := (List.getElem?_eq_some_iff.1 h).1
  rw [flP_len] at hj
  obtain ⟨x, hx⟩ : ∃ x, l[j / 2]? = some x := ⟨_, List.getElem?_eq_getElem (by omega)⟩
  obtain ⟨e0, e1⟩ := flP_at l (j / 2) x hx
  refine ⟨x, hx, ?_⟩
  rcases Nat.mod_two_eq_zero_or_one j with c | c
  · rw [show j / 2 * 2 = j from by omega, h] at e0
    exact .inl ⟨c, Option.some.inj e0⟩
  · rw [show j / 2 * 2 + 1 = j from by omega, h] at e1
    exact .inr ⟨c, Option.some.inj e1⟩
theorem way_of_own {W : World} {B : Nat} {v : Value} {l : List (Int × Int)} (h : W.ownsRow B 24 2 v l.length (flP l)) (hi : ∀ x ∈ l, in32 x.1 ∧ in32 x.2) : ∃ a c, v = .slice a l.length c ∧ Way W a l := by
  rcases h.2 with ⟨rfl, hn⟩ | ⟨g, cap, cur, rfl, hg, hh, hle, hm, hs, ht⟩
  · have : l = [] := List.eq_nil_of_length_eq_zero hn
    subst this
    exact ⟨none, 0, rfl, fun k x hx => by simp at hx⟩
  · refine ⟨_, _, rfl, fun k x hx => ⟨g, 0, rfl, ?_⟩⟩
    obtain ⟨e0, e1⟩ := flP_at l k x hx
    have c0 := h.cells (g := g) rfl _ _ e0
    have c1 := h.cells (g := g) rfl _ _ e1
    have e : ∀ k, (⟨g, 0, none⟩ : Addr).add k = ⟨g, 0 + k, none⟩ := fun k => by unfold Addr.add; split <;> simp_all
    rw [e] at c0 c1
    exact ⟨c0, by rw [Nat.add_assoc]; exact c1, hi x (List.mem_of_getElem? hx)⟩
theorem pt_info : (Tryd.prog.info? 24).map (fun i => (i.zero, i.size, i.bytes)) = some (some (.agg #[.int .i32 0, .int .i32 0]), 2, 8) := by kernel_rfl
theorem way_none {w : World} {l : List (Int × Int)} (h : Way w none l) : l = [] := by
  match l with
  | [] => rfl
  | x :: r =>
    obtain ⟨b, off, e, _⟩ := h 0 x rfl
    cases e
set_option maxRecDepth 20000 in
set_option maxHeartbeats 4000000 in
theorem reckons_walk {O : Nat} {x y u v : Int} {t0 t : Nat} {a : Option Addr} {c : Nat} {l : List (Int × Int)} (hO : O < 18446744073709551616) (hx : in32 x) (hy : in32 y) (hu : in32 u) (hv : in32 v) (h0 : t0 < 4294967296) (h1 : t < 4294967296)
    (w : World) (hP : Way w a l) (ha : a = none → c = 0) (hl : l.length ≤ 17592186044416) (hT : Tab w) (hS : Sec w) :
    Calls Tryd.prog 3 #[aV (O : Int) x y u v (t0 : Int) (t : Int) (.slice a l.length c)] w fun e w' => e = .returned (.bool true) ∧ Below w.heap.size w w' := by
  obtain ⟨i0, hi, hz0, hz1, hz2⟩ := info_parts pt_info
  have k := Bk.new w 28 (aL (O : Int) x y u v (t0 : Int) (t : Int) (.slice a l.length c))
  have g := (Gr.refl w).alloc (.cells (aL (O : Int) x y u v (t0 : Int) (t : Int) (.slice a l.length c)).toArray 28)
  have R7 : ∀ W, (callFunc 7 #[.int .u64 (O : Int)]).run Tryd.prog W = .ok (.value (.float .f64 O)) W := fun W => run7 (O : Int) W
  have hin : ∀ x ∈ l, in32 x.1 ∧ in32 x.2 := fun x hx => by
    obtain ⟨k, hk⟩ := List.mem_iff_getElem?.1 hx
    obtain ⟨_, _, _, _, _, h⟩ := hP k x hk
    exact h
  have HP := hP.below g.below
  go_enter Tryd.func3, Tryd.ntmps3
  go_upto_region 2 with (simp only [R7])
  obtain ⟨b, hbe, hb⟩ : ∃ b, b = w.heap.size ∧ w.heap.size ≤ b := ⟨_, rfl, Nat.le_refl _⟩
  rw [← hbe] at k ⊢
  clear hbe
  generalize World.alloc _ _ = W at *
  have q7 := k.at 7
  simp only [List.getElem?_cons_zero, List.getElem?_cons_succ] at q7
  have gs := g.size
  rcases (show (a = none ∧ l = [] ∧ c = 0) ∨ ∃ ad, a = some ad from by
    cases a with
    | none => exact .inl ⟨rfl, way_none HP, ha rfl⟩
    | some ad => exact .inr ⟨ad, rfl⟩) with ⟨rfl, rfl, rfl⟩ | ⟨ad, rfl⟩
  · go_upto_region 3 with (at_builtin; refine wpList_append_own_none rfl (.const (.slice none 0 0)) (.tmp 11) 26 rfl W.heap.size 24 i0 2 Tryd.underlying26 hi (.slice none 0 0) 0 [] rfl (World.ownsRow_nil _ _ _ _) rfl ?_)
    have WA : Hid (Calls Tryd.prog 8 #[.slice none 0 0] W fun e w' => e = .returned (.float .f64 0) ∧ Gr W w') := way_any none 0 [] W (fun k x hx => by simp at hx) (by simp)
    have WR : Hid (∀ V, Gr W V → Calls Tryd.prog 12 #[.slice none 0 0] V fun e w' => e = .returned (.float .f64 0) ∧ Gr V w') := fun V _ => rway_any none 0 [] V (fun k x hx => by simp at hx) (by simp)
    have B1 := hid0 g.below
    have k1 : Hid (Bk W b 28 (aL (O : Int) x y u v (t0 : Int) (t : Int) (.slice none 0 0))) := k
    clear hin HP k q7 gs R7
    go_upto_region 4 with (go_at_call 8; refine WA.out.mono ?_; rintro e w2 ⟨rfl, g2⟩)
    have G2 := hid0 g2
    clear WA g2
    go_upto_region 5 with fail
    go_loopg [6] 0 (fun kx s6 wr => s6 = .int .i64 0 ∧ kx = 0 ∧ Hid (Gr W wr))
    case atStart => exact ⟨rfl, rfl, G2.out⟩
    case round =>
      obtain ⟨rfl, rfl, G⟩ := hrel
      · skip
        have gD := G.out.drew
        have SD := hid0 (k1.out.gr gD)
        have DD : Hid (Below w.heap.size w wr.drew) := B1.out.trans (gD.below.mono B1.out.size)
        have GD := hid0 gD
        have c1 : ∀ V, Bk V b 28 (aL (O : Int) x y u v (t0 : Int) (t : Int) (.slice none 0 0)) → V.cell? ⟨b, 1, none⟩ = some (.int .i32 x) := fun V h => h.at 1
        have c2 : ∀ V, Bk V b 28 (aL (O : Int) x y u v (t0 : Int) (t : Int) (.slice none 0 0)) → V.cell? ⟨b, 2, none⟩ = some (.int .i32 y) := fun V h => h.at 2
        have c3 : ∀ V, Bk V b 28 (aL (O : Int) x y u v (t0 : Int) (t : Int) (.slice none 0 0)) → V.cell? ⟨b, 3, none⟩ = some (.int .i32 u) := fun V h => h.at 3
        have c4 : ∀ V, Bk V b 28 (aL (O : Int) x y u v (t0 : Int) (t : Int) (.slice none 0 0)) → V.cell? ⟨b, 4, none⟩ = some (.int .i32 v) := fun V h => h.at 4
        have c5 : ∀ V, Bk V b 28 (aL (O : Int) x y u v (t0 : Int) (t : Int) (.slice none 0 0)) → V.cell? ⟨b, 5, none⟩ = some (.int .u32 (t0 : Int)) := fun V h => h.at 5
        have c6 : ∀ V, Bk V b 28 (aL (O : Int) x y u v (t0 : Int) (t : Int) (.slice none 0 0)) → V.cell? ⟨b, 6, none⟩ = some (.int .u32 (t : Int)) := fun V h => h.at 6
        have c7 : ∀ V, Bk V b 28 (aL (O : Int) x y u v (t0 : Int) (t : Int) (.slice none 0 0)) → V.cell? ⟨b, 7, none⟩ = some (.slice none 0 0) := fun V h => h.at 7
        have WV : V 0 0 := V.refl (by decide)
        go_upto_region 9 with fail
        clear hi
        go_region_held3 (fun V => Bk V b 28 (aL (O : Int) x y u v (t0 : Int) (t : Int) (.slice none 0 0)))
          (first
            | assumption
            | exact SD.out)
          (first
            | (go_at_call 15; refine (works_any _ (hT.below d7.out)).mono ?_; rintro e v8 ⟨rfl, hb8⟩; have s8 := s7.mono hb8 s7.lt; have d8 := hid0 (d7.out.trans (hb8.mono d7.out.size)))
            | (go_at_call 14; refine (rheading_any hx hy hu hv _).mono ?_; rintro e v7 ⟨rfl, h7⟩; have g7 := g6.trans h7; have s7 := s6.gr h7; have d7 := hid0 (d6.out.trans (h7.below.mono d6.out.size)))
            | (go_at_call 13; refine (heading_any hx hy hu hv _ (hS.below d5.out)).mono ?_; rintro e v6 ⟨rfl, h6⟩; have g6 := g5.trans h6; have s6 := s5.gr h6; have d6 := hid0 (d5.out.trans (h6.below.mono d5.out.size)))
            | (go_at_call 9; have := d4.out; refine (same_any WV WV _).mono ?_; rintro e v5 ⟨rfl, hw⟩; cases hw; have g5 := g4; have s5 := s4; have d5 := d4)
            | (go_at_call 12; refine (WR.out _ (GD.out.trans g3)).mono ?_; rintro e v4 ⟨rfl, h4⟩; have g4 := g3.trans h4; have s4 := s3.gr h4; have d4 := hid0 (d3.out.trans (h4.below.mono d3.out.size)))
            | (go_at_call 9; refine (same_any hv1 hv2 _).mono ?_; rintro e v3 ⟨rfl, hw⟩; cases hw; have g3 := g2'; have s3 := s2; have d3 := d2)
            | (go_at_call 11; refine (rspeed_any (V.refl hO) hx hy hu hv h0 h1 _).mono ?_; rintro e v2 ⟨r2, rfl, hv2, h2⟩; have g2' := g1'.trans h2; have s2 := s1.gr h2; have d2 := hid0 (d1.out.trans (h2.below.mono d1.out.size)))
            | (go_at_call 10; refine (speed_any (V.refl hO) hx hy hu hv h0 h1 _).mono ?_; rintro e v1 ⟨r1, rfl, hv1, g1'⟩; have s1 := SD.out.gr g1'; have d1 := hid0 (DD.out.trans (g1'.below.mono DD.out.size))))
        go_wp2
        go_ret
        exact ⟨rfl, d8.out⟩
  · have hnews : ∀ j u, (flP l)[j]? = some u → W.cell? (ad.add j) = some u := fun j u hj => by
      obtain ⟨x, hx, hu⟩ := flP_of hj
      obtain ⟨b', off, e, c0, c1, _⟩ := HP (j / 2) x hx
      cases e
      have e : ∀ k, (⟨b', off, none⟩ : Addr).add k = ⟨b', off + k, none⟩ := fun k => by unfold Addr.add; split <;> simp_all
      rw [e]
      rcases hu with ⟨hm, rfl⟩ | ⟨hm, rfl⟩
      · rw [show off + j = off + j / 2 * 2 from by omega]; exact c0
      · rw [show off + j = off + j / 2 * 2 + 1 from by omega]; exact c1
    go_upto_region 3 with (at_builtin; refine wpList_append_own_at _ rfl (.const (.slice none 0 0)) (.tmp 11) 26 rfl W.heap.size 24 i0 (.agg #[.int .i32 0, .int .i32 0]) 2 8 Tryd.underlying26 hi hz0 hz1 hz2 rfl (by decide) (.slice none 0 0) 0 [] rfl (World.ownsRow_nil _ _ _ _) ad l.length c (flP l) rfl (flP_len l) hnews (flP_one l) (by unfold maxLen; omega) (by omega) (Nat.le_refl _) ?_; intro v' w1 hown hgrow hnil hat)
    rw [Nat.zero_add, List.nil_append] at hown
    obtain ⟨av, cv, rfl, HV⟩ := way_of_own hown hin
    have k1 : Bk w1 b 28 (aL (O : Int) x y u v (t0 : Int) (t : Int) (.slice (some ad) l.length c)) := (hgrow.block b k.lt (fun e => by cases e)).trans k
    have B1 : Below w.heap.size w w1 := by
      have := (Chg.grownR hgrow).below (B := w.heap.size) gs (fun j e => by cases e)
      exact g.below.trans this
    have HA : Way w1 (some ad) l := by
      have := (Chg.grownR hgrow).below (B := W.heap.size) (Nat.le_refl _) (fun j e => by cases e)
      exact HP.below this
    have WA := hid0 (way_any av cv l w1 HV (by omega))
    have WR := hid0 (fun V (gg : Gr w1 V) => rway_any (some ad) c l V (HA.below gg.below) (by omega))
    replace B1 := hid0 B1
    replace HV := hid0 HV
    replace HA := hid0 HA
    replace k1 := hid0 k1
    clear hown hgrow hnil hat hnews hin HP k q7 gs R7
    generalize hn : l.length = n at *
    have HN := hid0 hn
    clear hn
    have hnI : (n : Int) < 9223372036854775807 := by omega
    go_upto_region 4 with (go_at_call 8; refine WA.out.mono ?_; rintro e w2 ⟨rfl, g2⟩)
    have G2 := hid0 g2
    clear WA g2
    go_upto_region 5 with fail
    go_loopg [6] n (fun kx s6 wr => ∃ i : Nat, s6 = .int .i64 (i : Int) ∧ i ≤ n ∧ kx = n - i ∧ Hid (Gr w1 wr))
    case atStart => exact ⟨0, rfl, Nat.zero_le _, rfl, G2.out⟩
    case round =>
      obtain ⟨i, rfl, hi, rfl, G⟩ := hrel
      by_cases hlt : i < n
      · have hlt' : (i : Int) < (n : Int) := by omega
        obtain ⟨p, hp⟩ : ∃ p, l[i]? = some p := ⟨_, List.getElem?_eq_getElem (by rw [HN.out]; exact hlt)⟩
        obtain ⟨b1, o1, rfl, e0, e1, _⟩ := HV.out i p hp
        obtain ⟨b2, o2, ea, e2, e3, _⟩ := HA.out i p hp
        cases ea
        have f0 := fun m => below_cell e0 ((G.out.drewN m).below)
        have f1 := fun m => below_cell e1 ((G.out.drewN m).below)
        have f2 := fun m => below_cell e2 ((G.out.drewN m).below)
        have f3 := fun m => below_cell e3 ((G.out.drewN m).below)
        have f4 := fun m => below_cell (show w1.cell? ⟨b, 7, none⟩ = some (.slice (some ⟨b2, o2, none⟩) n c) from k1.out.at 7) ((G.out.drewN m).below)
        have GG := hid0 (fun m => G.out.drewN m)
        clear e0 e1 e2 e3 hp G
        go_upto_region 7 with fail
        go_quiet (fail)
        go_wp2
        go_roundg (n - (i + 1))
        case measure => omega
        case rel => exact ⟨i + 1, by simp, by omega, rfl, GG.out _⟩
      · have hge : ¬ (i : Int) < (n : Int) := by omega
        have gD := G.out.drew
        have SD := hid0 (k1.out.gr gD)
        have DD : Hid (Below w.heap.size w wr.drew) := B1.out.trans (gD.below.mono B1.out.size)
        have GD := hid0 gD
        have c1 : ∀ V, Bk V b 28 (aL (O : Int) x y u v (t0 : Int) (t : Int) (.slice (some ad) n c)) → V.cell? ⟨b, 1, none⟩ = some (.int .i32 x) := fun V h => h.at 1
        have c2 : ∀ V, Bk V b 28 (aL (O : Int) x y u v (t0 : Int) (t : Int) (.slice (some ad) n c)) → V.cell? ⟨b, 2, none⟩ = some (.int .i32 y) := fun V h => h.at 2
        have c3 : ∀ V, Bk V b 28 (aL (O : Int) x y u v (t0 : Int) (t : Int) (.slice (some ad) n c)) → V.cell? ⟨b, 3, none⟩ = some (.int .i32 u) := fun V h => h.at 3
        have c4 : ∀ V, Bk V b 28 (aL (O : Int) x y u v (t0 : Int) (t : Int) (.slice (some ad) n c)) → V.cell? ⟨b, 4, none⟩ = some (.int .i32 v) := fun V h => h.at 4
        have c5 : ∀ V, Bk V b 28 (aL (O : Int) x y u v (t0 : Int) (t : Int) (.slice (some ad) n c)) → V.cell? ⟨b, 5, none⟩ = some (.int .u32 (t0 : Int)) := fun V h => h.at 5
        have c6 : ∀ V, Bk V b 28 (aL (O : Int) x y u v (t0 : Int) (t : Int) (.slice (some ad) n c)) → V.cell? ⟨b, 6, none⟩ = some (.int .u32 (t : Int)) := fun V h => h.at 6
        have c7 : ∀ V, Bk V b 28 (aL (O : Int) x y u v (t0 : Int) (t : Int) (.slice (some ad) n c)) → V.cell? ⟨b, 7, none⟩ = some (.slice (some ad) n c) := fun V h => h.at 7
        have WV := V.refl (show wy l (n - 1) < 18446744073709551616 from by have := wy_le l (n - 1); omega)
        go_upto_region 9 with fail
        clear hi hge
        go_region_held3 (fun V => Bk V b 28 (aL (O : Int) x y u v (t0 : Int) (t : Int) (.slice (some ad) n c)))
          (first
            | assumption
            | exact SD.out)
          (first
            | (go_at_call 15; refine (works_any _ (hT.below d7.out)).mono ?_; rintro e v8 ⟨rfl, hb8⟩; have s8 := s7.mono hb8 s7.lt; have d8 := hid0 (d7.out.trans (hb8.mono d7.out.size)))
            | (go_at_call 14; refine (rheading_any hx hy hu hv _).mono ?_; rintro e v7 ⟨rfl, h7⟩; have g7 := g6.trans h7; have s7 := s6.gr h7; have d7 := hid0 (d6.out.trans (h7.below.mono d6.out.size)))
            | (go_at_call 13; refine (heading_any hx hy hu hv _ (hS.below d5.out)).mono ?_; rintro e v6 ⟨rfl, h6⟩; have g6 := g5.trans h6; have s6 := s5.gr h6; have d6 := hid0 (d5.out.trans (h6.below.mono d5.out.size)))
            | (go_at_call 9; have := d4.out; refine (same_any WV WV _).mono ?_; rintro e v5 ⟨rfl, hw⟩; cases hw; have g5 := g4; have s5 := s4; have d5 := d4)
            | (go_at_call 12; refine (WR.out _ (GD.out.trans g3)).mono ?_; rintro e v4 ⟨rfl, h4⟩; have g4 := g3.trans h4; have s4 := s3.gr h4; have d4 := hid0 (d3.out.trans (h4.below.mono d3.out.size)))
            | (go_at_call 9; refine (same_any hv1 hv2 _).mono ?_; rintro e v3 ⟨rfl, hw⟩; cases hw; have g3 := g2'; have s3 := s2; have d3 := d2)
            | (go_at_call 11; refine (rspeed_any (V.refl hO) hx hy hu hv h0 h1 _).mono ?_; rintro e v2 ⟨r2, rfl, hv2, h2⟩; have g2' := g1'.trans h2; have s2 := s1.gr h2; have d2 := hid0 (d1.out.trans (h2.below.mono d1.out.size)))
            | (go_at_call 10; refine (speed_any (V.refl hO) hx hy hu hv h0 h1 _).mono ?_; rintro e v1 ⟨r1, rfl, hv1, g1'⟩; have s1 := SD.out.gr g1'; have d1 := hid0 (DD.out.trans (g1'.below.mono DD.out.size))))
        go_wp2
        go_ret
        exact ⟨rfl, d8.out⟩
end Go.Proofs.YtgdmbcfjjdngdaaDoor
