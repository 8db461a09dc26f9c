/- The reference's Meet: its statements from the differences on. -/
import Derived.Test.YtagabccaipfjeaaR19
namespace Go.Proofs.Ytagabccaipfjeaa
open Go.RowKit Go.Sort

set_option maxRecDepth 20000 in
set_option maxHeartbeats 4000000 in
theorem meet_t12 {u0 u1 u2 u3 u5 u7 u11 u12 u15 u16 u17 u18 u19 u20 u21 u22 u23 u24 u25 u26 u27 u28 u29 u30 u31 u32 u33 u34 u35 u36 u37 u38 u39 u40 u41 u42 u43 u44 u45 u46 u47 u48 u49 u50 u51 u52 u53 u54 u55 u56 u57 u58 u59 u60 u61 u62 u63 u64 u65 u66 u67 u68 u69 u70 u71 u72 u73 u74 u75 u76 u77 u78 u79 u80 u81 u82 u83 u84 u85 u86 u87 u88 u89 u90 u91 u92 u93 u94 u95 u96 u97 u98 u99 u100 u101 u102 u103 u104 u105 u106 u107 u108 u109 u110 u111 u112 u113 u114 u115 u116 u117 u118 u119 u120 u121 u122 u123 u124 u125 u126 u127 u128 u129 u130 u131 u132 u133 u134 u135 u136 u137 u138 u139 u140 u141 u142 u143 u144 u145 u146 u147 u148 u149 u150 u151 u152 u153 u154 u155 u156 u157 u158 u159 u160 u161 u162 u163 u164 u165 u166 u167 u168 u169 u170 u171 u172 u173 u174 u175 u176 u177 u178 u179 u180 u181 u182 u183 u184 u185 u186 u187 u188 u189 u190 u191 u192 : Value} (w wq : World) (R : Nat) (res : Mt) (A Cb X13 : Nat) (ax ay cx cy TN SN DEN : Int) (ux uy : Int) (X14 : Nat) (hR : w.heap.size ≤ R) (mR : M6 wq R (.int .u8 0) (.bool false) (.int .i64 0) (.int .i64 0) (.int .i64 0) (.int .i64 0)) (hB : Below w.heap.size w wq) (ta : TwoIs wq A ax ay) (tc : TwoIs wq Cb cx cy) (V13 : VL wq X13 DEN 1 9) (V14 : VL wq X14 (sgN TN DEN) (sgN DEN DEN) 18) (CS : Hid (∀ W, Calls Try.prog 23 #[.int .i64 (IntKind.i64.wrap (IntKind.i64.wrap cx - IntKind.i64.wrap ax)), .int .i64 (IntKind.i64.wrap (IntKind.i64.wrap cy - IntKind.i64.wrap ay)), .int .i64 ux, .int .i64 uy] W fun e w' => ∃ z, e = .returned z ∧ Rt w' z SN 1 9 ∧ Below W.heap.size W w')) (h0 : 0 < sgN DEN DEN) (h1 : sgN DEN DEN ≤ 9223372036854775807) (E : Hid (res = if sgN TN DEN < 0 ∨ sgN DEN DEN < sgN TN DEN ∨ sgN SN DEN < 0 ∨ sgN DEN DEN < sgN SN DEN then mt0 else (1, decide ((0 < sgN TN DEN ∧ sgN TN DEN < sgN DEN DEN) ∧ (0 < sgN SN DEN ∧ sgN SN DEN < sgN DEN DEN)), lowF (sgN TN DEN) (sgN DEN DEN), lowF (sgN TN DEN) (sgN DEN DEN)))) (Q : Exit → Act → World → Prop) (hQ : Q = bodyPost Try.prog Try.f7 (fun e w' => e = .returned (mtv res) ∧ Below w.heap.size w w')) (K : Act → World → Prop) (hK : ∀ a w, Code.wp Try.prog (codeTail 13 (codeOf Try.f7)) Q a w → K a w) :
    Code.wp Try.prog (codeHead 12 (codeOf Try.f7)) (Exit.then K Q) { tmps := #[u0, u1, u2, u3, .pointer (some ⟨A, 0, none⟩), u5, .pointer (some ⟨Cb, 0, none⟩), u7, .pointer (some ⟨R, 0, none⟩), .int .i64 ux, .int .i64 uy, u11, u12, .pointer (some ⟨X13, 0, none⟩), .pointer (some ⟨X14, 0, none⟩), u15, u16, u17, u18, u19, u20, u21, u22, u23, u24, u25, u26, u27, u28, u29, u30, u31, u32, u33, u34, u35, u36, u37, u38, u39, u40, u41, u42, u43, u44, u45, u46, u47, u48, u49, u50, u51, u52, u53, u54, u55, u56, u57, u58, u59, u60, u61, u62, u63, u64, u65, u66, u67, u68, u69, u70, u71, u72, u73, u74, u75, u76, u77, u78, u79, u80, u81, u82, u83, u84, u85, u86, u87, u88, u89, u90, u91, u92, u93, u94, u95, u96, u97, u98, u99, u100, u101, u102, u103, u104, u105, u106, u107, u108, u109, u110, u111, u112, u113, u114, u115, u116, u117, u118, u119, u120, u121, u122, u123, u124, u125, u126, u127, u128, u129, u130, u131, u132, u133, u134, u135, u136, u137, u138, u139, u140, u141, u142, u143, u144, u145, u146, u147, u148, u149, u150, u151, u152, u153, u154, u155, u156, u157, u158, u159, u160, u161, u162, u163, u164, u165, u166, u167, u168, u169, u170, u171, u172, u173, u174, u175, u176, u177, u178, u179, u180, u181, u182, u183, u184, u185, u186, u187, u188, u189, u190, u191, u192], defers := [] } wq := by
  dsimp only [codeHead, codeTail, codeOf, Try.f7, Option.getD] at hK ⊢
  subst hQ
  obtain ⟨r3, o3, l3, c3, R3, O3, M3, C3, k13, z3⟩ := V13
  replace z3 := hid' z3
  have hL : wq.heap.size ≤ wq.heap.size := Nat.le_refl _
  have lA := ta.lt
  have lC := tc.lt
  have lX := k13.lt
  have BW : Hid (Below wq.heap.size wq wq) := Below.refl _ _
  have B0 : Hid (Below wq.heap.size wq wq.drew) := (Below.refl _ _).drew
  have hSW : Hid (T8 A Cb X13 ax ay cx cy (.bool r3) (.slice o3 l3 c3) (.bool R3) (.slice O3 M3 C3) wq.heap.size wq wq) := ⟨ta.c0, ta.c1, tc.c0, tc.c1, k13.c0, k13.c1, k13.c2, k13.c3, Below.refl _ _⟩
  have hS0 : Hid (T8 A Cb X13 ax ay cx cy (.bool r3) (.slice o3 l3 c3) (.bool R3) (.slice O3 M3 C3) wq.heap.size wq wq.drew) := T8.dr hSW.out
  have q1 := hid' (quo_sg SN DEN)
  have q2 := hid' (quo_sd DEN)
  have FIN : Hid (∀ W' X, Below wq.heap.size wq W' → VL W' X (sgN SN DEN) (sgN DEN DEN) 18 → (M6 W' R (.int .u8 0) (.bool false) (.int .i64 0) (.int .i64 0) (.int .i64 0) (.int .i64 0) ∧ Below w.heap.size w W' ∧ TwoIs W' A ax ay ∧ TwoIs W' Cb cx cy ∧ VL W' X13 DEN 1 9 ∧ VL W' X14 (sgN TN DEN) (sgN DEN DEN) 18 ∧ True)) := fun W' X g v => ⟨mR.mono g mR.lt, hB.trans (g.mono hB.size), ⟨below_cell ta.c0 g, below_cell ta.c1 g⟩, ⟨below_cell tc.c0 g, below_cell tc.c1 g⟩, VL.mono ⟨_, _, _, _, _, _, _, _, k13, z3.out⟩ g, V14.mono g, trivial⟩
  clear k13 mR hB ta tc V14
  replace E := hid' E
  go_region_held3 (T8 A Cb X13 ax ay cx cy (.bool r3) (.slice o3 l3 c3) (.bool R3) (.slice O3 M3 C3) wq.heap.size wq)
    (repeat (first | with_reducible exact hS2.out | with_reducible exact hS1.out | with_reducible exact hS0.out | with_reducible exact hSW.out | (with_reducible refine T8.set ?_ (by simp only []; omega) lA lC lX _) | (with_reducible refine T8.al ?_ hL _) | (with_reducible refine T8.dr ?_)))
    (first
      | (go_at_call 25; refine (rquo_rt _ _ SN 1 DEN 1 9 9 _ (by first | with_reducible exact z5.out | with_reducible exact z5.out.al _) (z3.out.mono (by (repeat (first | with_reducible exact B2.out | with_reducible exact B1.out | with_reducible exact B0.out | with_reducible exact BW.out | (with_reducible refine bl_drew ?_) | (with_reducible refine bl_alloc ?_ _))))) (by omega)).mono ?_; rintro e y2 ⟨z, rfl, hz, g2⟩; obtain ⟨r6, o6, l6, c6, R6, O6, M6', C6, rfl, z6⟩ := hz.shape; clear hz; have B2 : Hid (Below wq.heap.size wq y2) := hid' (Below.trans (by (repeat (first | with_reducible exact B2.out | with_reducible exact B1.out | with_reducible exact B0.out | with_reducible exact BW.out | (with_reducible refine bl_drew ?_) | (with_reducible refine bl_alloc ?_ _)))) (g2.mono (Below.size (by (repeat (first | with_reducible exact B2.out | with_reducible exact B1.out | with_reducible exact B0.out | with_reducible exact BW.out | (with_reducible refine bl_drew ?_) | (with_reducible refine bl_alloc ?_ _))))))); have s2 := B2.out.size; have hS2 : Hid (T8 A Cb X13 ax ay cx cy (.bool r3) (.slice o3 l3 c3) (.bool R3) (.slice O3 M3 C3) wq.heap.size wq y2) := ⟨below_cell hSW.out.1 B2.out, below_cell hSW.out.2.1 B2.out, below_cell hSW.out.2.2.1 B2.out, below_cell hSW.out.2.2.2.1 B2.out, below_cell hSW.out.2.2.2.2.1 B2.out, below_cell hSW.out.2.2.2.2.2.1 B2.out, below_cell hSW.out.2.2.2.2.2.2.1 B2.out, below_cell hSW.out.2.2.2.2.2.2.2.1 B2.out, B2.out⟩; first | (have m2 : Q4 y2 wq.heap.size (.bool false) (.slice none 0 0) (.bool false) (.slice none 0 0) := (by with_reducible exact m1.mono g2 m1.lt); have bb0 := m2.c0; have bb1 := m2.c1; have bb2 := m2.c2; have bb3 := m2.c3; have bbf := m2.f) | (have m2 : Q4 y2 y1.heap.size (.bool false) (.slice none 0 0) (.bool false) (.slice none 0 0) := (by with_reducible exact Q4.nx g2); have bb0 := m2.c0; have bb1 := m2.c1; have bb2 := m2.c2; have bb3 := m2.c3; have bbf := m2.f) | skip)
      | (go_at_call 23; refine (CS.out _).mono ?_; rintro e y1 ⟨z, rfl, hz, g1⟩; obtain ⟨r5, o5, l5, c5, R5, O5, M5, C5, rfl, z5⟩ := hz.shape; clear hz; have B1 : Hid (Below wq.heap.size wq y1) := hid' (Below.trans (by (repeat (first | with_reducible exact B2.out | with_reducible exact B1.out | with_reducible exact B0.out | with_reducible exact BW.out | (with_reducible refine bl_drew ?_) | (with_reducible refine bl_alloc ?_ _)))) (g1.mono (Below.size (by (repeat (first | with_reducible exact B2.out | with_reducible exact B1.out | with_reducible exact B0.out | with_reducible exact BW.out | (with_reducible refine bl_drew ?_) | (with_reducible refine bl_alloc ?_ _))))))); have s1 := B1.out.size; have hS1 : Hid (T8 A Cb X13 ax ay cx cy (.bool r3) (.slice o3 l3 c3) (.bool R3) (.slice O3 M3 C3) wq.heap.size wq y1) := ⟨below_cell hSW.out.1 B1.out, below_cell hSW.out.2.1 B1.out, below_cell hSW.out.2.2.1 B1.out, below_cell hSW.out.2.2.2.1 B1.out, below_cell hSW.out.2.2.2.2.1 B1.out, below_cell hSW.out.2.2.2.2.2.1 B1.out, below_cell hSW.out.2.2.2.2.2.2.1 B1.out, below_cell hSW.out.2.2.2.2.2.2.2.1 B1.out, B1.out⟩; first | (have m1 : Q4 y1 wq.heap.size (.bool false) (.slice none 0 0) (.bool false) (.slice none 0 0) := (by with_reducible exact Q4.nw g1); have ab0 := m1.c0; have ab1 := m1.c1; have ab2 := m1.c2; have ab3 := m1.c3; have abf := m1.f) | skip))
  · have v := hid' (VL.new (z6.out.to q1.out q2.out))
    have f := hid' (FIN.out _ _ (bl_alloc B2.out _) v.out)
    go_upto_region 20 with fail
    exact meet_t13 w _ R res X14 _ (sgN TN DEN) (sgN SN DEN) (sgN DEN DEN) hR f.out.1 f.out.2.1 f.out.2.2.2.2.2.1 v.out h0 h1 E _ rfl _ (by assumption)
  · have v := hid' (VL.put m2 (z6.out.to q1.out q2.out))
    have f := hid' (FIN.out _ _ (four_set B2.out s1) v.out)
    go_upto_region 20 with fail
    exact meet_t13 w _ R res X14 _ (sgN TN DEN) (sgN SN DEN) (sgN DEN DEN) hR f.out.1 f.out.2.1 f.out.2.2.2.2.2.1 v.out h0 h1 E _ rfl _ (by assumption)
  · have v := hid' (VL.put m2 (z6.out.to q1.out q2.out))
    have f := hid' (FIN.out _ _ (four_set B2.out hL) v.out)
    go_upto_region 20 with fail
    exact meet_t13 w _ R res X14 _ (sgN TN DEN) (sgN SN DEN) (sgN DEN DEN) hR f.out.1 f.out.2.1 f.out.2.2.2.2.2.1 v.out h0 h1 E _ rfl _ (by assumption)
set_option maxRecDepth 20000 in
set_option maxHeartbeats 4000000 in
theorem meet_t11 {u0 u1 u2 u3 u5 u7 u14 u15 u16 u17 u18 u19 u20 u21 u22 u23 u24 u25 u26 u27 u28 u29 u30 u31 u32 u33 u34 u35 u36 u37 u38 u39 u40 u41 u42 u43 u44 u45 u46 u47 u48 u49 u50 u51 u52 u53 u54 u55 u56 u57 u58 u59 u60 u61 u62 u63 u64 u65 u66 u67 u68 u69 u70 u71 u72 u73 u74 u75 u76 u77 u78 u79 u80 u81 u82 u83 u84 u85 u86 u87 u88 u89 u90 u91 u92 u93 u94 u95 u96 u97 u98 u99 u100 u101 u102 u103 u104 u105 u106 u107 u108 u109 u110 u111 u112 u113 u114 u115 u116 u117 u118 u119 u120 u121 u122 u123 u124 u125 u126 u127 u128 u129 u130 u131 u132 u133 u134 u135 u136 u137 u138 u139 u140 u141 u142 u143 u144 u145 u146 u147 u148 u149 u150 u151 u152 u153 u154 u155 u156 u157 u158 u159 u160 u161 u162 u163 u164 u165 u166 u167 u168 u169 u170 u171 u172 u173 u174 u175 u176 u177 u178 u179 u180 u181 u182 u183 u184 u185 u186 u187 u188 u189 u190 u191 u192 : Value} (w wq : World) (R : Nat) (res : Mt) (A Cb X13 : Nat) (ax ay cx cy TN SN DEN : Int) (ux uy wx wy : Int) (hR : w.heap.size ≤ R) (mR : M6 wq R (.int .u8 0) (.bool false) (.int .i64 0) (.int .i64 0) (.int .i64 0) (.int .i64 0)) (hB : Below w.heap.size w wq) (ta : TwoIs wq A ax ay) (tc : TwoIs wq Cb cx cy) (V13 : VL wq X13 DEN 1 9) (CT : Hid (∀ W, Calls Try.prog 23 #[.int .i64 (IntKind.i64.wrap (IntKind.i64.wrap cx - IntKind.i64.wrap ax)), .int .i64 (IntKind.i64.wrap (IntKind.i64.wrap cy - IntKind.i64.wrap ay)), .int .i64 wx, .int .i64 wy] W fun e w' => ∃ z, e = .returned z ∧ Rt w' z TN 1 9 ∧ Below W.heap.size W w')) (CS : Hid (∀ W, Calls Try.prog 23 #[.int .i64 (IntKind.i64.wrap (IntKind.i64.wrap cx - IntKind.i64.wrap ax)), .int .i64 (IntKind.i64.wrap (IntKind.i64.wrap cy - IntKind.i64.wrap ay)), .int .i64 ux, .int .i64 uy] W fun e w' => ∃ z, e = .returned z ∧ Rt w' z SN 1 9 ∧ Below W.heap.size W w')) (h0 : 0 < sgN DEN DEN) (h1 : sgN DEN DEN ≤ 9223372036854775807) (E : Hid (res = if sgN TN DEN < 0 ∨ sgN DEN DEN < sgN TN DEN ∨ sgN SN DEN < 0 ∨ sgN DEN DEN < sgN SN DEN then mt0 else (1, decide ((0 < sgN TN DEN ∧ sgN TN DEN < sgN DEN DEN) ∧ (0 < sgN SN DEN ∧ sgN SN DEN < sgN DEN DEN)), lowF (sgN TN DEN) (sgN DEN DEN), lowF (sgN TN DEN) (sgN DEN DEN)))) (Q : Exit → Act → World → Prop) (hQ : Q = bodyPost Try.prog Try.f7 (fun e w' => e = .returned (mtv res) ∧ Below w.heap.size w w')) (K : Act → World → Prop) (hK : ∀ a w, Code.wp Try.prog (codeTail 12 (codeOf Try.f7)) Q a w → K a w) :
    Code.wp Try.prog (codeHead 11 (codeOf Try.f7)) (Exit.then K Q) { tmps := #[u0, u1, u2, u3, .pointer (some ⟨A, 0, none⟩), u5, .pointer (some ⟨Cb, 0, none⟩), u7, .pointer (some ⟨R, 0, none⟩), .int .i64 ux, .int .i64 uy, .int .i64 wx, .int .i64 wy, .pointer (some ⟨X13, 0, none⟩), u14, u15, u16, u17, u18, u19, u20, u21, u22, u23, u24, u25, u26, u27, u28, u29, u30, u31, u32, u33, u34, u35, u36, u37, u38, u39, u40, u41, u42, u43, u44, u45, u46, u47, u48, u49, u50, u51, u52, u53, u54, u55, u56, u57, u58, u59, u60, u61, u62, u63, u64, u65, u66, u67, u68, u69, u70, u71, u72, u73, u74, u75, u76, u77, u78, u79, u80, u81, u82, u83, u84, u85, u86, u87, u88, u89, u90, u91, u92, u93, u94, u95, u96, u97, u98, u99, u100, u101, u102, u103, u104, u105, u106, u107, u108, u109, u110, u111, u112, u113, u114, u115, u116, u117, u118, u119, u120, u121, u122, u123, u124, u125, u126, u127, u128, u129, u130, u131, u132, u133, u134, u135, u136, u137, u138, u139, u140, u141, u142, u143, u144, u145, u146, u147, u148, u149, u150, u151, u152, u153, u154, u155, u156, u157, u158, u159, u160, u161, u162, u163, u164, u165, u166, u167, u168, u169, u170, u171, u172, u173, u174, u175, u176, u177, u178, u179, u180, u181, u182, u183, u184, u185, u186, u187, u188, u189, u190, u191, u192], defers := [] } wq := by
  dsimp only [codeHead, codeTail, codeOf, Try.f7, Option.getD] at hK ⊢
  subst hQ
  obtain ⟨r3, o3, l3, c3, R3, O3, M3, C3, k13, z3⟩ := V13
  replace z3 := hid' z3
  have hL : wq.heap.size ≤ wq.heap.size := Nat.le_refl _
  have lA := ta.lt
  have lC := tc.lt
  have lX := k13.lt
  have BW : Hid (Below wq.heap.size wq wq) := Below.refl _ _
  have B0 : Hid (Below wq.heap.size wq wq.drew) := (Below.refl _ _).drew
  have hSW : Hid (T8 A Cb X13 ax ay cx cy (.bool r3) (.slice o3 l3 c3) (.bool R3) (.slice O3 M3 C3) wq.heap.size wq wq) := ⟨ta.c0, ta.c1, tc.c0, tc.c1, k13.c0, k13.c1, k13.c2, k13.c3, Below.refl _ _⟩
  have hS0 : Hid (T8 A Cb X13 ax ay cx cy (.bool r3) (.slice o3 l3 c3) (.bool R3) (.slice O3 M3 C3) wq.heap.size wq wq.drew) := T8.dr hSW.out
  have q1 := hid' (quo_sg TN DEN)
  have q2 := hid' (quo_sd DEN)
  have FIN : Hid (∀ W' X, Below wq.heap.size wq W' → VL W' X (sgN TN DEN) (sgN DEN DEN) 18 → (M6 W' R (.int .u8 0) (.bool false) (.int .i64 0) (.int .i64 0) (.int .i64 0) (.int .i64 0) ∧ Below w.heap.size w W' ∧ TwoIs W' A ax ay ∧ TwoIs W' Cb cx cy ∧ VL W' X13 DEN 1 9 ∧ True)) := fun W' X g v => ⟨mR.mono g mR.lt, hB.trans (g.mono hB.size), ⟨below_cell ta.c0 g, below_cell ta.c1 g⟩, ⟨below_cell tc.c0 g, below_cell tc.c1 g⟩, VL.mono ⟨_, _, _, _, _, _, _, _, k13, z3.out⟩ g, trivial⟩
  clear k13 mR hB ta tc
  replace E := hid' E
  go_region_held3 (T8 A Cb X13 ax ay cx cy (.bool r3) (.slice o3 l3 c3) (.bool R3) (.slice O3 M3 C3) wq.heap.size wq)
    (repeat (first | with_reducible exact hS2.out | with_reducible exact hS1.out | with_reducible exact hS0.out | with_reducible exact hSW.out | (with_reducible refine T8.set ?_ (by simp only []; omega) lA lC lX _) | (with_reducible refine T8.al ?_ hL _) | (with_reducible refine T8.dr ?_)))
    (first
      | (go_at_call 25; refine (rquo_rt _ _ TN 1 DEN 1 9 9 _ (by first | with_reducible exact z5.out | with_reducible exact z5.out.al _) (z3.out.mono (by (repeat (first | with_reducible exact B2.out | with_reducible exact B1.out | with_reducible exact B0.out | with_reducible exact BW.out | (with_reducible refine bl_drew ?_) | (with_reducible refine bl_alloc ?_ _))))) (by omega)).mono ?_; rintro e y2 ⟨z, rfl, hz, g2⟩; obtain ⟨r6, o6, l6, c6, R6, O6, M6', C6, rfl, z6⟩ := hz.shape; clear hz; have B2 : Hid (Below wq.heap.size wq y2) := hid' (Below.trans (by (repeat (first | with_reducible exact B2.out | with_reducible exact B1.out | with_reducible exact B0.out | with_reducible exact BW.out | (with_reducible refine bl_drew ?_) | (with_reducible refine bl_alloc ?_ _)))) (g2.mono (Below.size (by (repeat (first | with_reducible exact B2.out | with_reducible exact B1.out | with_reducible exact B0.out | with_reducible exact BW.out | (with_reducible refine bl_drew ?_) | (with_reducible refine bl_alloc ?_ _))))))); have s2 := B2.out.size; have hS2 : Hid (T8 A Cb X13 ax ay cx cy (.bool r3) (.slice o3 l3 c3) (.bool R3) (.slice O3 M3 C3) wq.heap.size wq y2) := ⟨below_cell hSW.out.1 B2.out, below_cell hSW.out.2.1 B2.out, below_cell hSW.out.2.2.1 B2.out, below_cell hSW.out.2.2.2.1 B2.out, below_cell hSW.out.2.2.2.2.1 B2.out, below_cell hSW.out.2.2.2.2.2.1 B2.out, below_cell hSW.out.2.2.2.2.2.2.1 B2.out, below_cell hSW.out.2.2.2.2.2.2.2.1 B2.out, B2.out⟩; first | (have m2 : Q4 y2 wq.heap.size (.bool false) (.slice none 0 0) (.bool false) (.slice none 0 0) := (by with_reducible exact m1.mono g2 m1.lt); have bb0 := m2.c0; have bb1 := m2.c1; have bb2 := m2.c2; have bb3 := m2.c3; have bbf := m2.f) | (have m2 : Q4 y2 y1.heap.size (.bool false) (.slice none 0 0) (.bool false) (.slice none 0 0) := (by with_reducible exact Q4.nx g2); have bb0 := m2.c0; have bb1 := m2.c1; have bb2 := m2.c2; have bb3 := m2.c3; have bbf := m2.f) | skip)
      | (go_at_call 23; refine (CT.out _).mono ?_; rintro e y1 ⟨z, rfl, hz, g1⟩; obtain ⟨r5, o5, l5, c5, R5, O5, M5, C5, rfl, z5⟩ := hz.shape; clear hz; have B1 : Hid (Below wq.heap.size wq y1) := hid' (Below.trans (by (repeat (first | with_reducible exact B2.out | with_reducible exact B1.out | with_reducible exact B0.out | with_reducible exact BW.out | (with_reducible refine bl_drew ?_) | (with_reducible refine bl_alloc ?_ _)))) (g1.mono (Below.size (by (repeat (first | with_reducible exact B2.out | with_reducible exact B1.out | with_reducible exact B0.out | with_reducible exact BW.out | (with_reducible refine bl_drew ?_) | (with_reducible refine bl_alloc ?_ _))))))); have s1 := B1.out.size; have hS1 : Hid (T8 A Cb X13 ax ay cx cy (.bool r3) (.slice o3 l3 c3) (.bool R3) (.slice O3 M3 C3) wq.heap.size wq y1) := ⟨below_cell hSW.out.1 B1.out, below_cell hSW.out.2.1 B1.out, below_cell hSW.out.2.2.1 B1.out, below_cell hSW.out.2.2.2.1 B1.out, below_cell hSW.out.2.2.2.2.1 B1.out, below_cell hSW.out.2.2.2.2.2.1 B1.out, below_cell hSW.out.2.2.2.2.2.2.1 B1.out, below_cell hSW.out.2.2.2.2.2.2.2.1 B1.out, B1.out⟩; first | (have m1 : Q4 y1 wq.heap.size (.bool false) (.slice none 0 0) (.bool false) (.slice none 0 0) := (by with_reducible exact Q4.nw g1); have ab0 := m1.c0; have ab1 := m1.c1; have ab2 := m1.c2; have ab3 := m1.c3; have abf := m1.f) | skip))
  · have v := hid' (VL.new (z6.out.to q1.out q2.out))
    have f := hid' (FIN.out _ _ (bl_alloc B2.out _) v.out)
    go_upto_region 19 with fail
    exact meet_t12 w _ R res A Cb X13 ax ay cx cy TN SN DEN ux uy _ hR f.out.1 f.out.2.1 f.out.2.2.1 f.out.2.2.2.1 f.out.2.2.2.2.1 v.out CS h0 h1 E _ rfl _ (by assumption)
  · have v := hid' (VL.put m2 (z6.out.to q1.out q2.out))
    have f := hid' (FIN.out _ _ (four_set B2.out s1) v.out)
    go_upto_region 19 with fail
    exact meet_t12 w _ R res A Cb X13 ax ay cx cy TN SN DEN ux uy _ hR f.out.1 f.out.2.1 f.out.2.2.1 f.out.2.2.2.1 f.out.2.2.2.2.1 v.out CS h0 h1 E _ rfl _ (by assumption)
  · have v := hid' (VL.put m2 (z6.out.to q1.out q2.out))
    have f := hid' (FIN.out _ _ (four_set B2.out hL) v.out)
    go_upto_region 19 with fail
    exact meet_t12 w _ R res A Cb X13 ax ay cx cy TN SN DEN ux uy _ hR f.out.1 f.out.2.1 f.out.2.2.1 f.out.2.2.2.1 f.out.2.2.2.2.1 v.out CS h0 h1 E _ rfl _ (by assumption)
set_option maxRecDepth 20000 in
set_option maxHeartbeats 4000000 in
theorem meet_t5 {u0 u1 u2 u3 u9 u10 u11 u12 u13 u14 u15 u16 u17 u18 u19 u20 u21 u22 u23 u24 u25 u26 u27 u28 u29 u30 u31 u32 u33 u34 u35 u36 u37 u38 u39 u40 u41 u42 u43 u44 u45 u46 u47 u48 u49 u50 u51 u52 u53 u54 u55 u56 u57 u58 u59 u60 u61 u62 u63 u64 u65 u66 u67 u68 u69 u70 u71 u72 u73 u74 u75 u76 u77 u78 u79 u80 u81 u82 u83 u84 u85 u86 u87 u88 u89 u90 u91 u92 u93 u94 u95 u96 u97 u98 u99 u100 u101 u102 u103 u104 u105 u106 u107 u108 u109 u110 u111 u112 u113 u114 u115 u116 u117 u118 u119 u120 u121 u122 u123 u124 u125 u126 u127 u128 u129 u130 u131 u132 u133 u134 u135 u136 u137 u138 u139 u140 u141 u142 u143 u144 u145 u146 u147 u148 u149 u150 u151 u152 u153 u154 u155 u156 u157 u158 u159 u160 u161 u162 u163 u164 u165 u166 u167 u168 u169 u170 u171 u172 u173 u174 u175 u176 u177 u178 u179 u180 u181 u182 u183 u184 u185 u186 u187 u188 u189 u190 u191 u192 : Value} (w wq : World) (R : Nat) (res : Mt) (A Bb Cb Db : Nat) (ax ay bx by_ cx cy dx dy TN SN DEN : Int) (hR : w.heap.size ≤ R) (mR : M6 wq R (.int .u8 0) (.bool false) (.int .i64 0) (.int .i64 0) (.int .i64 0) (.int .i64 0)) (hB : Below w.heap.size w wq) (ta : TwoIs wq A ax ay) (tb : TwoIs wq Bb bx by_) (tc : TwoIs wq Cb cx cy) (td : TwoIs wq Db dx dy) (i1 : in32 ax) (j1 : in32 ay) (i2 : in32 bx) (j2 : in32 by_) (i3 : in32 cx) (j3 : in32 cy) (i4 : in32 dx) (j4 : in32 dy) (CD : Hid (∀ W, Calls Try.prog 23 #[.int .i64 (bx - ax), .int .i64 (by_ - ay), .int .i64 (dx - cx), .int .i64 (dy - cy)] W fun e w' => ∃ z, e = .returned z ∧ Rt w' z DEN 1 9 ∧ Below W.heap.size W w')) (CT : Hid (∀ W, Calls Try.prog 23 #[.int .i64 (IntKind.i64.wrap (IntKind.i64.wrap cx - IntKind.i64.wrap ax)), .int .i64 (IntKind.i64.wrap (IntKind.i64.wrap cy - IntKind.i64.wrap ay)), .int .i64 (dx - cx), .int .i64 (dy - cy)] W fun e w' => ∃ z, e = .returned z ∧ Rt w' z TN 1 9 ∧ Below W.heap.size W w')) (CS : Hid (∀ W, Calls Try.prog 23 #[.int .i64 (IntKind.i64.wrap (IntKind.i64.wrap cx - IntKind.i64.wrap ax)), .int .i64 (IntKind.i64.wrap (IntKind.i64.wrap cy - IntKind.i64.wrap ay)), .int .i64 (bx - ax), .int .i64 (by_ - ay)] W fun e w' => ∃ z, e = .returned z ∧ Rt w' z SN 1 9 ∧ Below W.heap.size W w')) (hDD : Hid (DEN ≠ 0 → 0 < sgN DEN DEN ∧ sgN DEN DEN ≤ 9223372036854775807)) (E0 : Hid (DEN = 0 → res = mt0)) (E : Hid (DEN ≠ 0 → res = if sgN TN DEN < 0 ∨ sgN DEN DEN < sgN TN DEN ∨ sgN SN DEN < 0 ∨ sgN DEN DEN < sgN SN DEN then mt0 else (1, decide ((0 < sgN TN DEN ∧ sgN TN DEN < sgN DEN DEN) ∧ (0 < sgN SN DEN ∧ sgN SN DEN < sgN DEN DEN)), lowF (sgN TN DEN) (sgN DEN DEN), lowF (sgN TN DEN) (sgN DEN DEN)))) (Q : Exit → Act → World → Prop) (hQ : Q = bodyPost Try.prog Try.f7 (fun e w' => e = .returned (mtv res) ∧ Below w.heap.size w w')) (K : Act → World → Prop) (hK : ∀ a w, Code.wp Try.prog (codeTail 6 (codeOf Try.f7)) Q a w → K a w) :
    Code.wp Try.prog (codeHead 5 (codeOf Try.f7)) (Exit.then K Q) { tmps := #[u0, u1, u2, u3, .pointer (some ⟨A, 0, none⟩), .pointer (some ⟨Bb, 0, none⟩), .pointer (some ⟨Cb, 0, none⟩), .pointer (some ⟨Db, 0, none⟩), .pointer (some ⟨R, 0, none⟩), u9, u10, u11, u12, u13, u14, u15, u16, u17, u18, u19, u20, u21, u22, u23, u24, u25, u26, u27, u28, u29, u30, u31, u32, u33, u34, u35, u36, u37, u38, u39, u40, u41, u42, u43, u44, u45, u46, u47, u48, u49, u50, u51, u52, u53, u54, u55, u56, u57, u58, u59, u60, u61, u62, u63, u64, u65, u66, u67, u68, u69, u70, u71, u72, u73, u74, u75, u76, u77, u78, u79, u80, u81, u82, u83, u84, u85, u86, u87, u88, u89, u90, u91, u92, u93, u94, u95, u96, u97, u98, u99, u100, u101, u102, u103, u104, u105, u106, u107, u108, u109, u110, u111, u112, u113, u114, u115, u116, u117, u118, u119, u120, u121, u122, u123, u124, u125, u126, u127, u128, u129, u130, u131, u132, u133, u134, u135, u136, u137, u138, u139, u140, u141, u142, u143, u144, u145, u146, u147, u148, u149, u150, u151, u152, u153, u154, u155, u156, u157, u158, u159, u160, u161, u162, u163, u164, u165, u166, u167, u168, u169, u170, u171, u172, u173, u174, u175, u176, u177, u178, u179, u180, u181, u182, u183, u184, u185, u186, u187, u188, u189, u190, u191, u192], defers := [] } wq := by
  dsimp only [codeHead, codeTail, codeOf, Try.f7, Option.getD] at hK ⊢
  subst hQ
  have e1 := w64_in i1
  have e2 := w64_in i2
  have e3 := w64_in i3
  have e4 := w64_in i4
  have e5 := w64_in j1
  have e6 := w64_in j2
  have e7 := w64_in j3
  have e8 := w64_in j4
  have f1 := w64_dif i2 i1
  have f2 := w64_dif j2 j1
  have f3 := w64_dif i4 i3
  have f4 := w64_dif j4 j3
  clear i1 j1 i2 j2 i3 j3 i4 j4
  have a0 := ta.c0
  have a1 := ta.c1
  have b0 := tb.c0
  have b1 := tb.c1
  have c0 := tc.c0
  have c1 := tc.c1
  have d0 := td.c0
  have d1 := td.c1
  go_wp2_with fail
  refine (CD.out _).mono ?_
  rintro e w7 ⟨z, rfl, hz, g7⟩
  obtain ⟨r3, o3, l3, c3, R3, O3, M3, C3, rfl, z3⟩ := hz.shape
  have g8 : Below w7.heap.size w7 (w7.alloc (.cells #[.bool r3, .slice o3 l3 c3, .bool R3, .slice O3 M3 C3] 53)) := ((Gr.refl _).alloc _).below
  replace g7 := g7.trans (g8.mono g7.size)
  replace mR := mR.mono g7 mR.lt
  replace hB := hB.trans (g7.mono hB.size)
  replace ta : TwoIs _ A ax ay := ⟨below_cell ta.c0 g7, below_cell ta.c1 g7⟩
  replace tc : TwoIs _ Cb cx cy := ⟨below_cell tc.c0 g7, below_cell tc.c1 g7⟩
  have V13 : VL (w7.alloc (.cells #[.bool r3, .slice o3 l3 c3, .bool R3, .slice O3 M3 C3] 53)) w7.heap.size DEN 1 9 := VL.new z3.out
  clear g7 g8 hz z3 CD a0 a1 b0 b1 c0 c1 d0 d1 tb td e1 e2 e3 e4 e5 e6 e7 e8
  dsimp only
  go_upto_region 16 with fail
  generalize w7.alloc (.cells #[.bool r3, .slice o3 l3 c3, .bool R3, .slice O3 M3 C3] 53) = W at *
  generalize w7.heap.size = X13 at *
  obtain ⟨r4, o4, l4, c4, R4, O4, M4, C4, k13, z3⟩ := V13
  replace z3 := hid' z3
  have x0 := k13.c0
  have x1 := k13.c1
  have x2 := k13.c2
  have x3 := k13.c3
  go_wp2_with fail
  refine (rsign_rt _ DEN 1 9 _ z3.out).mono ?_
  rintro e w8 ⟨rfl, g8⟩
  dsimp only
  replace mR := mR.mono g8 mR.lt
  replace hB := hB.trans (g8.mono hB.size)
  replace ta : TwoIs _ A ax ay := ⟨below_cell ta.c0 g8, below_cell ta.c1 g8⟩
  replace tc : TwoIs _ Cb cx cy := ⟨below_cell tc.c0 g8, below_cell tc.c1 g8⟩
  have V13 : VL w8 X13 DEN 1 9 := VL.mono ⟨_, _, _, _, _, _, _, _, k13, z3.out⟩ g8
  clear g8 x0 x1 x2 x3 k13 z3
  have hc0 : Hid (cmpI DEN 0 = 0 ↔ DEN = 0) := cmpI_zero _ _
  generalize cmpI DEN 0 = CM at *
  by_cases hD : DEN = 0
  · obtain rfl : CM = 0 := hc0.out.mpr hD
    have e := hid' (E0.out hD)
    clear hc0 hD E E0 V13 CT CS hDD ta tc
    have n0 := mR.c0
    have n1 := mR.c1
    have n2 := mR.c2
    have n3 := mR.c3
    have n4 := mR.c4
    have n5 := mR.c5
    have nf := mR.f
    go_wp2
    refine bodyPost_ret (v := mtv mt0) (by simp [results, Try.results7, go_sem, n0, n1, n2, n3, n4, n5, mt0]) rfl ⟨by rw [e.out], ?_⟩
    exact (((((hB.setCell (by simp only []; omega) _).setCell (by simp only []; omega) _).setCell (by simp only []; omega) _).setCell (by simp only []; omega) _).setCell (by simp only []; omega) _).setCell (by simp only []; omega) _
  have hcz : (CM == 0) = false := by simp; exact fun q => hD (hc0.out.mp q)
  have EX := hid' (E.out hD)
  have HD := hid' (hDD.out hD)
  clear hc0 E0 E hDD hD
  go_upto_region 18 with fail
  rw [f1, f2, f3, f4]
  exact meet_t11 w _ R res A Cb X13 ax ay cx cy TN SN DEN (bx - ax) (by_ - ay) (dx - cx) (dy - cy) hR mR hB ta tc V13 CT CS HD.out.1 HD.out.2 EX _ rfl _ (by assumption)
end Go.Proofs.Ytagabccaipfjeaa
