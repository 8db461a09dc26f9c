/- Contract of the reference's sum of two whole numbers. -/
import Derived.Test.YtagabccaipfjeaaR7
namespace Go.Proofs.Ytagabccaipfjeaa
open Go.RowKit Go.Sort

set_option maxRecDepth 20000 in
set_option maxHeartbeats 2000000 in
theorem plus_same (s t : Bool) (ao bo : Option Addr) (ca cb : Nat) (a b : List Int) (N : Int) (w : World) (ha : Rd w ao ca a) (hb : Rd w bo cb b) (h1 : a.length ≤ 400) (h2 : b.length ≤ 400) (hst : (s == t) = true)
    (hN : vals a + vals b = N.natAbs) (hs1 : s = true → N ≤ 0) (hs2 : s = false → 0 ≤ N) :
    Calls Try.prog 46 #[.agg #[.bool s, .slice ao a.length ca], .agg #[.bool t, .slice bo b.length cb]] w fun e w' => ∃ z, e = .returned z ∧ Nm w' z N (max a.length b.length + 1) ∧ Below w.heap.size w w' := by
  have k0 : Wh (((w.alloc (.cells #[.bool s, .slice ao a.length ca] 51)).alloc (.cells #[.bool t, .slice bo b.length cb] 51)).alloc (.cells #[.bool false, .slice none 0 0] 51)) w.heap.size (.bool s) (.slice ao a.length ca) := (Wh.new w _ _).gr (((Gr.refl _).alloc _).alloc _)
  have k1 : Wh (((w.alloc (.cells #[.bool s, .slice ao a.length ca] 51)).alloc (.cells #[.bool t, .slice bo b.length cb] 51)).alloc (.cells #[.bool false, .slice none 0 0] 51)) (w.heap.size + 1) (.bool t) (.slice bo b.length cb) := by
    have := (Wh.new (w.alloc (.cells #[.bool s, .slice ao a.length ca] 51)) (.bool t) (.slice bo b.length cb)).gr ((Gr.refl _).alloc (.cells #[.bool false, .slice none 0 0] 51))
    simpa using this
  have k2 : Wh (((w.alloc (.cells #[.bool s, .slice ao a.length ca] 51)).alloc (.cells #[.bool t, .slice bo b.length cb] 51)).alloc (.cells #[.bool false, .slice none 0 0] 51)) (w.heap.size + 1 + 1) (.bool false) (.slice none 0 0) := by
    have := Wh.new ((w.alloc (.cells #[.bool s, .slice ao a.length ca] 51)).alloc (.cells #[.bool t, .slice bo b.length cb] 51)) (.bool false) (.slice none 0 0)
    simpa using this
  have hG3 : Gr w (((w.alloc (.cells #[.bool s, .slice ao a.length ca] 51)).alloc (.cells #[.bool t, .slice bo b.length cb] 51)).alloc (.cells #[.bool false, .slice none 0 0] 51)) := (((Gr.refl _).alloc _).alloc _).alloc _
  have hsz : w.heap.size + 1 + 1 ≤ (((w.alloc (.cells #[.bool s, .slice ao a.length ca] 51)).alloc (.cells #[.bool t, .slice bo b.length cb] 51)).alloc (.cells #[.bool false, .slice none 0 0] 51)).heap.size := by simp
  go_enter Try.func46, Try.ntmps46
  go_upto_region 2 with fail
  have HA : Hid (Rd (((w.alloc (.cells #[.bool s, .slice ao a.length ca] 51)).alloc (.cells #[.bool t, .slice bo b.length cb] 51)).alloc (.cells #[.bool false, .slice none 0 0] 51)).drew ao ca a) := ha.mono (hG3.drew).below
  have HB : Hid (Rd (((w.alloc (.cells #[.bool s, .slice ao a.length ca] 51)).alloc (.cells #[.bool t, .slice bo b.length cb] 51)).alloc (.cells #[.bool false, .slice none 0 0] 51)).drew bo cb b) := hb.mono (hG3.drew).below
  have hF0 := hG3.below
  have HN : Hid (vals a + vals b = N.natAbs) := hN
  clear ha hb hN hG3
  have hK : w.heap.size + 1 + 1 ≤ (((w.alloc (.cells #[.bool s, .slice ao a.length ca] 51)).alloc (.cells #[.bool t, .slice bo b.length cb] 51)).alloc (.cells #[.bool false, .slice none 0 0] 51)).heap.size := hsz
  clear hsz
  generalize (((w.alloc (.cells #[.bool s, .slice ao a.length ca] 51)).alloc (.cells #[.bool t, .slice bo b.length cb] 51)).alloc (.cells #[.bool false, .slice none 0 0] 51)) = W at *
  have hS0 : Hid (S4 ⟨w.heap.size, 0, none⟩ ⟨w.heap.size, 1, none⟩ ⟨w.heap.size + 1, 0, none⟩ ⟨w.heap.size + 1, 1, none⟩ (.bool s) (.slice ao a.length ca) (.bool t) (.slice bo b.length cb) (w.heap.size + 1 + 1) W W.drew) := ⟨k0.c0, k0.c1, k1.c0, k1.c1, (Below.refl _ _).drew⟩
  have kd : Wh W.drew (w.heap.size + 1 + 1) (.bool false) (.slice none 0 0) := k2
  go_region_held3 (S4 ⟨w.heap.size, 0, none⟩ ⟨w.heap.size, 1, none⟩ ⟨w.heap.size + 1, 0, none⟩ ⟨w.heap.size + 1, 1, none⟩ (.bool s) (.slice ao a.length ca) (.bool t) (.slice bo b.length cb) (w.heap.size + 1 + 1) W)
    (repeat (first | with_reducible exact hS2.out | with_reducible exact hS1.out | with_reducible exact hS0.out | (with_reducible refine S4.set ?_ (by simp only []; omega) (by simp only []; omega) (by simp only []; omega) (by simp only []; omega) (by simp only []; omega) _)))
    (first
      | (go_at_call 58; refine (sum_any ao bo ca cb a b _ HA.out HB.out (by omega) (by omega)).mono ?_; rintro e y1 ⟨g, l, rfl, hl, hv, hlen, hb1⟩; have hS1 : Hid (S4 ⟨w.heap.size, 0, none⟩ ⟨w.heap.size, 1, none⟩ ⟨w.heap.size + 1, 0, none⟩ ⟨w.heap.size + 1, 1, none⟩ (.bool s) (.slice ao a.length ca) (.bool t) (.slice bo b.length cb) (w.heap.size + 1 + 1) W y1) := S4.call hS0.out hK hb1; have kd1 := kd.mono hb1 kd.lt; have hl' := hid' hl; have hvN : Hid (vals l = (N).natAbs) := hid' (by rw [hv, HN.out]); have hLn : Hid (l.length ≤ max a.length b.length + 1) := hid' (by omega); clear hl hv hlen hb1)
      | (go_at_call 57; refine (made_num s (some ⟨g, 0, none⟩) l.length l (N) (max a.length b.length + 1) y1 hl'.out hvN.out hs1 hs2 hLn.out).mono ?_; rintro e y2 ⟨z, rfl, hz, q2⟩; obtain ⟨r1, o1, l1, c1, rfl, hz1⟩ := hz.shape; clear hz; have hS2 : Hid (S4 ⟨w.heap.size, 0, none⟩ ⟨w.heap.size, 1, none⟩ ⟨w.heap.size + 1, 0, none⟩ ⟨w.heap.size + 1, 1, none⟩ (.bool s) (.slice ao a.length ca) (.bool t) (.slice bo b.length cb) (w.heap.size + 1 + 1) W y2) := S4.call hS1.out hK q2.below; have kd2 := kd1.gr q2; have d0 := kd2.c0; have d1 := kd2.c1; have df := kd2.f))
  all_goals
    have hB2 := hid' (hF0.trans (hS2.out.2.2.2.2.mono (by omega)))
    go_wp2
    refine bodyPost_ret (v := .agg #[.bool r1, .slice o1 l1 c1]) (by simp [results, Try.results46, go_sem, d0, d1]) rfl ⟨_, rfl, ?_, ?_⟩
    · exact hz1.out.setW kd2 _ _
    · exact (hB2.out.setCell (by simp only []; omega) _).setCell (by simp only []; omega) _
set_option maxRecDepth 20000 in
set_option maxHeartbeats 2000000 in
theorem plus_ge (s t : Bool) (ao bo : Option Addr) (ca cb : Nat) (a b : List Int) (N : Int) (w : World) (ha : Rd w ao ca a) (hb : Rd w bo cb b) (h1 : a.length ≤ 400) (_h2 : b.length ≤ 400) (hst : (s == t) = false) (na : nrm a) (nb : nrm b) (hc : vals b ≤ vals a)
    (hN : vals a - vals b = N.natAbs) (hs1 : s = true → N ≤ 0) (hs2 : s = false → 0 ≤ N) :
    Calls Try.prog 46 #[.agg #[.bool s, .slice ao a.length ca], .agg #[.bool t, .slice bo b.length cb]] w fun e w' => ∃ z, e = .returned z ∧ Nm w' z N (max a.length b.length + 1) ∧ Below w.heap.size w w' := by
  have hcm : (0 : Int) ≤ cmpI (vals a) (vals b) := by unfold cmpI; rw [if_neg (by omega)]; split <;> omega
  have k0 : Wh (((w.alloc (.cells #[.bool s, .slice ao a.length ca] 51)).alloc (.cells #[.bool t, .slice bo b.length cb] 51)).alloc (.cells #[.bool false, .slice none 0 0] 51)) w.heap.size (.bool s) (.slice ao a.length ca) := (Wh.new w _ _).gr (((Gr.refl _).alloc _).alloc _)
  have k1 : Wh (((w.alloc (.cells #[.bool s, .slice ao a.length ca] 51)).alloc (.cells #[.bool t, .slice bo b.length cb] 51)).alloc (.cells #[.bool false, .slice none 0 0] 51)) (w.heap.size + 1) (.bool t) (.slice bo b.length cb) := by
    have := (Wh.new (w.alloc (.cells #[.bool s, .slice ao a.length ca] 51)) (.bool t) (.slice bo b.length cb)).gr ((Gr.refl _).alloc (.cells #[.bool false, .slice none 0 0] 51))
    simpa using this
  have k2 : Wh (((w.alloc (.cells #[.bool s, .slice ao a.length ca] 51)).alloc (.cells #[.bool t, .slice bo b.length cb] 51)).alloc (.cells #[.bool false, .slice none 0 0] 51)) (w.heap.size + 1 + 1) (.bool false) (.slice none 0 0) := by
    have := Wh.new ((w.alloc (.cells #[.bool s, .slice ao a.length ca] 51)).alloc (.cells #[.bool t, .slice bo b.length cb] 51)) (.bool false) (.slice none 0 0)
    simpa using this
  have hG3 : Gr w (((w.alloc (.cells #[.bool s, .slice ao a.length ca] 51)).alloc (.cells #[.bool t, .slice bo b.length cb] 51)).alloc (.cells #[.bool false, .slice none 0 0] 51)) := (((Gr.refl _).alloc _).alloc _).alloc _
  have hsz : w.heap.size + 1 + 1 ≤ (((w.alloc (.cells #[.bool s, .slice ao a.length ca] 51)).alloc (.cells #[.bool t, .slice bo b.length cb] 51)).alloc (.cells #[.bool false, .slice none 0 0] 51)).heap.size := by simp
  go_enter Try.func46, Try.ntmps46
  have LW := low_any ao bo ca cb a b (((w.alloc (.cells #[.bool s, .slice ao a.length ca] 51)).alloc (.cells #[.bool t, .slice bo b.length cb] 51)).alloc (.cells #[.bool false, .slice none 0 0] 51)) (ha.gr hG3) (hb.gr hG3) na nb
  go_wp2_with fail
  refine LW.mono ?_
  clear LW
  rintro e w0 ⟨rfl, g0⟩
  replace k0 := k0.gr g0
  replace k1 := k1.gr g0
  replace k2 := k2.gr g0
  replace hG3 := hG3.trans g0
  have hK : w.heap.size + 1 + 1 ≤ w0.heap.size := by have := g0.size; omega
  clear hsz g0
  generalize cmpI (vals a) (vals b) = CM at *
  go_upto_region 4 with fail
  have HA : Hid (Rd w0.drew ao ca a) := ha.mono (hG3.drew).below
  have HB : Hid (Rd w0.drew bo cb b) := hb.mono (hG3.drew).below
  have hF0 := hG3.below
  have HN : Hid (vals a - vals b = N.natAbs) := hN
  clear ha hb hN hG3
  have hS0 : Hid (S4 ⟨w.heap.size, 0, none⟩ ⟨w.heap.size, 1, none⟩ ⟨w.heap.size + 1, 0, none⟩ ⟨w.heap.size + 1, 1, none⟩ (.bool s) (.slice ao a.length ca) (.bool t) (.slice bo b.length cb) (w.heap.size + 1 + 1) w0 w0.drew) := ⟨k0.c0, k0.c1, k1.c0, k1.c1, (Below.refl _ _).drew⟩
  have kd : Wh w0.drew (w.heap.size + 1 + 1) (.bool false) (.slice none 0 0) := k2
  go_region_held3 (S4 ⟨w.heap.size, 0, none⟩ ⟨w.heap.size, 1, none⟩ ⟨w.heap.size + 1, 0, none⟩ ⟨w.heap.size + 1, 1, none⟩ (.bool s) (.slice ao a.length ca) (.bool t) (.slice bo b.length cb) (w.heap.size + 1 + 1) w0)
    (repeat (first | with_reducible exact hS2.out | with_reducible exact hS1.out | with_reducible exact hS0.out | (with_reducible refine S4.set ?_ (by simp only []; omega) (by simp only []; omega) (by simp only []; omega) (by simp only []; omega) (by simp only []; omega) _)))
    (first
      | (go_at_call 60; refine (less_any ao bo ca cb a b _ HA.out HB.out (by omega) nb hc).mono ?_; rintro e y1 ⟨g, l, rfl, hl, hv, hlen, hb1⟩; have hS1 : Hid (S4 ⟨w.heap.size, 0, none⟩ ⟨w.heap.size, 1, none⟩ ⟨w.heap.size + 1, 0, none⟩ ⟨w.heap.size + 1, 1, none⟩ (.bool s) (.slice ao a.length ca) (.bool t) (.slice bo b.length cb) (w.heap.size + 1 + 1) w0 y1) := S4.call hS0.out hK hb1; have kd1 := kd.mono hb1 kd.lt; have hl' := hid' hl; have hvN : Hid (vals l = (N).natAbs) := hid' (by rw [hv, HN.out]); have hLn : Hid (l.length ≤ max a.length b.length + 1) := hid' (by omega); clear hl hv hlen hb1)
      | (go_at_call 57; refine (made_num s (some ⟨g, 0, none⟩) l.length l (N) (max a.length b.length + 1) y1 hl'.out hvN.out hs1 hs2 hLn.out).mono ?_; rintro e y2 ⟨z, rfl, hz, q2⟩; obtain ⟨r1, o1, l1, c1, rfl, hz1⟩ := hz.shape; clear hz; have hS2 : Hid (S4 ⟨w.heap.size, 0, none⟩ ⟨w.heap.size, 1, none⟩ ⟨w.heap.size + 1, 0, none⟩ ⟨w.heap.size + 1, 1, none⟩ (.bool s) (.slice ao a.length ca) (.bool t) (.slice bo b.length cb) (w.heap.size + 1 + 1) w0 y2) := S4.call hS1.out hK q2.below; have kd2 := kd1.gr q2; have d0 := kd2.c0; have d1 := kd2.c1; have df := kd2.f))
  all_goals
    have hB2 := hid' (hF0.trans (hS2.out.2.2.2.2.mono (by omega)))
    go_wp2
    refine bodyPost_ret (v := .agg #[.bool r1, .slice o1 l1 c1]) (by simp [results, Try.results46, go_sem, d0, d1]) rfl ⟨_, rfl, ?_, ?_⟩
    · exact hz1.out.setW kd2 _ _
    · exact (hB2.out.setCell (by simp only []; omega) _).setCell (by simp only []; omega) _
set_option maxRecDepth 20000 in
set_option maxHeartbeats 2000000 in
theorem plus_lt (s t : Bool) (ao bo : Option Addr) (ca cb : Nat) (a b : List Int) (N : Int) (w : World) (ha : Rd w ao ca a) (hb : Rd w bo cb b) (_h1 : a.length ≤ 400) (h2 : b.length ≤ 400) (hst : (s == t) = false) (na : nrm a) (nb : nrm b) (hc : vals a < vals b)
    (hN : vals b - vals a = N.natAbs) (hs1 : t = true → N ≤ 0) (hs2 : t = false → 0 ≤ N) :
    Calls Try.prog 46 #[.agg #[.bool s, .slice ao a.length ca], .agg #[.bool t, .slice bo b.length cb]] w fun e w' => ∃ z, e = .returned z ∧ Nm w' z N (max a.length b.length + 1) ∧ Below w.heap.size w w' := by
  have hcm : cmpI (vals a) (vals b) < 0 := by unfold cmpI; rw [if_pos hc]; omega
  have k0 : Wh (((w.alloc (.cells #[.bool s, .slice ao a.length ca] 51)).alloc (.cells #[.bool t, .slice bo b.length cb] 51)).alloc (.cells #[.bool false, .slice none 0 0] 51)) w.heap.size (.bool s) (.slice ao a.length ca) := (Wh.new w _ _).gr (((Gr.refl _).alloc _).alloc _)
  have k1 : Wh (((w.alloc (.cells #[.bool s, .slice ao a.length ca] 51)).alloc (.cells #[.bool t, .slice bo b.length cb] 51)).alloc (.cells #[.bool false, .slice none 0 0] 51)) (w.heap.size + 1) (.bool t) (.slice bo b.length cb) := by
    have := (Wh.new (w.alloc (.cells #[.bool s, .slice ao a.length ca] 51)) (.bool t) (.slice bo b.length cb)).gr ((Gr.refl _).alloc (.cells #[.bool false, .slice none 0 0] 51))
    simpa using this
  have k2 : Wh (((w.alloc (.cells #[.bool s, .slice ao a.length ca] 51)).alloc (.cells #[.bool t, .slice bo b.length cb] 51)).alloc (.cells #[.bool false, .slice none 0 0] 51)) (w.heap.size + 1 + 1) (.bool false) (.slice none 0 0) := by
    have := Wh.new ((w.alloc (.cells #[.bool s, .slice ao a.length ca] 51)).alloc (.cells #[.bool t, .slice bo b.length cb] 51)) (.bool false) (.slice none 0 0)
    simpa using this
  have hG3 : Gr w (((w.alloc (.cells #[.bool s, .slice ao a.length ca] 51)).alloc (.cells #[.bool t, .slice bo b.length cb] 51)).alloc (.cells #[.bool false, .slice none 0 0] 51)) := (((Gr.refl _).alloc _).alloc _).alloc _
  have hsz : w.heap.size + 1 + 1 ≤ (((w.alloc (.cells #[.bool s, .slice ao a.length ca] 51)).alloc (.cells #[.bool t, .slice bo b.length cb] 51)).alloc (.cells #[.bool false, .slice none 0 0] 51)).heap.size := by simp
  go_enter Try.func46, Try.ntmps46
  have LW := low_any ao bo ca cb a b (((w.alloc (.cells #[.bool s, .slice ao a.length ca] 51)).alloc (.cells #[.bool t, .slice bo b.length cb] 51)).alloc (.cells #[.bool false, .slice none 0 0] 51)) (ha.gr hG3) (hb.gr hG3) na nb
  go_wp2_with fail
  refine LW.mono ?_
  clear LW
  rintro e w0 ⟨rfl, g0⟩
  replace k0 := k0.gr g0
  replace k1 := k1.gr g0
  replace k2 := k2.gr g0
  replace hG3 := hG3.trans g0
  have hK : w.heap.size + 1 + 1 ≤ w0.heap.size := by have := g0.size; omega
  clear hsz g0
  generalize cmpI (vals a) (vals b) = CM at *
  go_upto_region 5 with fail
  have HA : Hid (Rd w0.drew ao ca a) := ha.mono (hG3.drew).below
  have HB : Hid (Rd w0.drew bo cb b) := hb.mono (hG3.drew).below
  have hF0 := hG3.below
  have HN : Hid (vals b - vals a = N.natAbs) := hN
  clear ha hb hN hG3
  have hS0 : Hid (S4 ⟨w.heap.size, 0, none⟩ ⟨w.heap.size, 1, none⟩ ⟨w.heap.size + 1, 0, none⟩ ⟨w.heap.size + 1, 1, none⟩ (.bool s) (.slice ao a.length ca) (.bool t) (.slice bo b.length cb) (w.heap.size + 1 + 1) w0 w0.drew) := ⟨k0.c0, k0.c1, k1.c0, k1.c1, (Below.refl _ _).drew⟩
  have kd : Wh w0.drew (w.heap.size + 1 + 1) (.bool false) (.slice none 0 0) := k2
  go_region_held3 (S4 ⟨w.heap.size, 0, none⟩ ⟨w.heap.size, 1, none⟩ ⟨w.heap.size + 1, 0, none⟩ ⟨w.heap.size + 1, 1, none⟩ (.bool s) (.slice ao a.length ca) (.bool t) (.slice bo b.length cb) (w.heap.size + 1 + 1) w0)
    (repeat (first | with_reducible exact hS2.out | with_reducible exact hS1.out | with_reducible exact hS0.out | (with_reducible refine S4.set ?_ (by simp only []; omega) (by simp only []; omega) (by simp only []; omega) (by simp only []; omega) (by simp only []; omega) _)))
    (first
      | (go_at_call 60; refine (less_any bo ao cb ca b a _ HB.out HA.out (by omega) na (by omega)).mono ?_; rintro e y1 ⟨g, l, rfl, hl, hv, hlen, hb1⟩; have hS1 : Hid (S4 ⟨w.heap.size, 0, none⟩ ⟨w.heap.size, 1, none⟩ ⟨w.heap.size + 1, 0, none⟩ ⟨w.heap.size + 1, 1, none⟩ (.bool s) (.slice ao a.length ca) (.bool t) (.slice bo b.length cb) (w.heap.size + 1 + 1) w0 y1) := S4.call hS0.out hK hb1; have kd1 := kd.mono hb1 kd.lt; have hl' := hid' hl; have hvN : Hid (vals l = (N).natAbs) := hid' (by rw [hv, HN.out]); have hLn : Hid (l.length ≤ max a.length b.length + 1) := hid' (by omega); clear hl hv hlen hb1)
      | (go_at_call 57; refine (made_num t (some ⟨g, 0, none⟩) l.length l (N) (max a.length b.length + 1) y1 hl'.out hvN.out hs1 hs2 hLn.out).mono ?_; rintro e y2 ⟨z, rfl, hz, q2⟩; obtain ⟨r1, o1, l1, c1, rfl, hz1⟩ := hz.shape; clear hz; have hS2 : Hid (S4 ⟨w.heap.size, 0, none⟩ ⟨w.heap.size, 1, none⟩ ⟨w.heap.size + 1, 0, none⟩ ⟨w.heap.size + 1, 1, none⟩ (.bool s) (.slice ao a.length ca) (.bool t) (.slice bo b.length cb) (w.heap.size + 1 + 1) w0 y2) := S4.call hS1.out hK q2.below; have kd2 := kd1.gr q2; have d0 := kd2.c0; have d1 := kd2.c1; have df := kd2.f))
  all_goals
    have hB2 := hid' (hF0.trans (hS2.out.2.2.2.2.mono (by omega)))
    go_wp2
    refine bodyPost_ret (v := .agg #[.bool r1, .slice o1 l1 c1]) (by simp [results, Try.results46, go_sem, d0, d1]) rfl ⟨_, rfl, ?_, ?_⟩
    · exact hz1.out.setW kd2 _ _
    · exact (hB2.out.setCell (by simp only []; omega) _).setCell (by simp only []; omega) _

theorem plus_num (x y : Value) (m n : Int) (L M : Nat) (w : World) (hx : Nm w x m L) (hy : Nm w y n M) (hL : L ≤ 400) (hM : M ≤ 400) :
    Calls Try.prog 46 #[x, y] w fun e w' => ∃ z, e = .returned z ∧ Nm w' z (m + n) (max L M + 1) ∧ Below w.heap.size w w' := by
  obtain ⟨ao, ca, a, rfl, ha, na, va, la⟩ := hx
  obtain ⟨bo, cb, b, rfl, hb, nb, vb, lb⟩ := hy
  have fin : ∀ {e : Ending} {w' : World}, (∃ z, e = .returned z ∧ Nm w' z (m + n) (max a.length b.length + 1) ∧ Below w.heap.size w w') → ∃ z, e = .returned z ∧ Nm w' z (m + n) (max L M + 1) ∧ Below w.heap.size w w' := by
    rintro e w' ⟨z, rfl, hz, g⟩
    exact ⟨z, rfl, hz.le (by omega), g⟩
  by_cases hst : (decide (m < 0) == decide (n < 0)) = true
  · have hs : decide (m < 0) = decide (n < 0) := by simpa using hst
    rw [decide_eq_decide] at hs
    exact (plus_same _ _ ao bo ca cb a b (m + n) w ha hb (by omega) (by omega) hst (by omega) (fun h => by simp at h; omega) (fun h => by simp at h; omega)).mono fun e w' h => fin h
  · have hst' : (decide (m < 0) == decide (n < 0)) = false := by simpa using hst
    have hs : ¬ (m < 0 ↔ n < 0) := fun k => hst (by have q : decide (m < 0) = decide (n < 0) := decide_eq_decide.mpr k; rw [q]; simp)
    by_cases hc : vals b ≤ vals a
    · exact (plus_ge _ _ ao bo ca cb a b (m + n) w ha hb (by omega) (by omega) hst' na nb hc (by omega) (fun h => by simp at h; omega) (fun h => by simp at h; omega)).mono fun e w' h => fin h
    · exact (plus_lt _ _ ao bo ca cb a b (m + n) w ha hb (by omega) (by omega) hst' na nb (by omega) (by omega) (fun h => by simp at h; omega) (fun h => by simp at h; omega)).mono fun e w' h => fin h
end Go.Proofs.Ytagabccaipfjeaa
