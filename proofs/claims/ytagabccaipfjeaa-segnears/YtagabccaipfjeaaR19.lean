/- The reference's Meet, its last statements one by one: two segments of two lines. -/
import Derived.Test.YtagabccaipfjeaaR18
namespace Go.Proofs.Ytagabccaipfjeaa
open Go.RowKit Go.Sort

theorem bl_alloc {W w : World} (h : Below W.heap.size W w) (o : Obj) : Below W.heap.size W (w.alloc o) := h.trans (((Gr.refl _).alloc _).below.mono h.size)
theorem bl_drew {W w : World} (h : Below W.heap.size W w) : Below W.heap.size W w.drew := h.drew
theorem Rt.al {w : World} {x : Value} {n d : Int} {L : Nat} (h : Rt w x n d L) (o : Obj) : Rt (w.alloc o) x n d L := h.mono ((Gr.refl _).alloc _).below
/-- A fraction in a block of its own, its numbers at most so many words long. -/
def VL (w : World) (b : Nat) (n d : Int) (L : Nat) : Prop := ∃ r o l c R O M C, Q4 w b (.bool r) (.slice o l c) (.bool R) (.slice O M C) ∧ Rt w (.agg #[.bool r, .slice o l c, .bool R, .slice O M C]) n d L
theorem VL.mono {w w' : World} {b : Nat} {n d : Int} {L : Nat} (h : VL w b n d L) (g : Below w.heap.size w w') : VL w' b n d L := by
  obtain ⟨r, o, l, c, R, O, M, C, h1, h2⟩ := h
  exact ⟨r, o, l, c, R, O, M, C, h1.mono g h1.lt, h2.mono g⟩
theorem VL.new {w : World} {n d : Int} {L : Nat} {r : Bool} {o : Option Addr} {l c : Nat} {R : Bool} {O : Option Addr} {M C : Nat} (k : Rt w (.agg #[.bool r, .slice o l c, .bool R, .slice O M C]) n d L) : VL (w.alloc (.cells #[.bool r, .slice o l c, .bool R, .slice O M C] 53)) w.heap.size n d L :=
  ⟨r, o, l, c, R, O, M, C, Q4.new _ _ _ _ _, k.al _⟩
theorem VL.put {w : World} {b : Nat} {n d : Int} {L : Nat} {x0 x1 x2 x3 : Value} {r : Bool} {o : Option Addr} {l c : Nat} {R : Bool} {O : Option Addr} {M C : Nat} (h : Q4 w b x0 x1 x2 x3) (k : Rt w (.agg #[.bool r, .slice o l c, .bool R, .slice O M C]) n d L) : VL ((((w.setCell ⟨b, 0, none⟩ (.bool r)).setCell ⟨b, 1, none⟩ (.slice o l c)).setCell ⟨b, 2, none⟩ (.bool R)).setCell ⟨b, 3, none⟩ (.slice O M C)) b n d L :=
  ⟨r, o, l, c, R, O, M, C, (((h.s0 _).s1 _).s2 _).s3 _, k.setQ h _ _ _ _⟩
theorem Q4.nw {w y : World} (g : Below ((w.alloc (.cells #[.bool false, .slice none 0 0, .bool false, .slice none 0 0] 53)).drew).heap.size ((w.alloc (.cells #[.bool false, .slice none 0 0, .bool false, .slice none 0 0] 53)).drew) y) : Q4 y w.heap.size (.bool false) (.slice none 0 0) (.bool false) (.slice none 0 0) :=
  have h : Q4 (w.alloc (.cells #[.bool false, .slice none 0 0, .bool false, .slice none 0 0] 53)).drew w.heap.size (.bool false) (.slice none 0 0) (.bool false) (.slice none 0 0) := Q4.new w (.bool false) (.slice none 0 0) (.bool false) (.slice none 0 0)
  h.mono g h.lt
theorem Q4.nx {w y : World} (g : Below (w.alloc (.cells #[.bool false, .slice none 0 0, .bool false, .slice none 0 0] 53)).heap.size (w.alloc (.cells #[.bool false, .slice none 0 0, .bool false, .slice none 0 0] 53)) y) : Q4 y w.heap.size (.bool false) (.slice none 0 0) (.bool false) (.slice none 0 0) :=
  have h := Q4.new w (.bool false) (.slice none 0 0) (.bool false) (.slice none 0 0)
  h.mono g h.lt
theorem four_set {W w : World} {X : Nat} {y0 y1 y2 y3 : Value} (h : Below W.heap.size W w) (n : W.heap.size ≤ X) : Below W.heap.size W ((((w.setCell ⟨X, 0, none⟩ y0).setCell ⟨X, 1, none⟩ y1).setCell ⟨X, 2, none⟩ y2).setCell ⟨X, 3, none⟩ y3) :=
  (((h.setCell (p := ⟨X, 0, none⟩) n _).setCell (p := ⟨X, 1, none⟩) n _).setCell (p := ⟨X, 2, none⟩) n _).setCell (p := ⟨X, 3, none⟩) n _
abbrev T8 (A C X : Nat) (ax ay cx cy : Int) (q0 q1 q2 q3 : Value) (K : Nat) (W : World) (w : World) : Prop :=
  w.cell? ⟨A, 0, none⟩ = some (.int .i32 ax) ∧ w.cell? ⟨A, 1, none⟩ = some (.int .i32 ay) ∧ w.cell? ⟨C, 0, none⟩ = some (.int .i32 cx) ∧ w.cell? ⟨C, 1, none⟩ = some (.int .i32 cy) ∧ w.cell? ⟨X, 0, none⟩ = some q0 ∧ w.cell? ⟨X, 1, none⟩ = some q1 ∧ w.cell? ⟨X, 2, none⟩ = some q2 ∧ w.cell? ⟨X, 3, none⟩ = some q3 ∧ Below K W w
theorem T8.call {A C X : Nat} {ax ay cx cy : Int} {q0 q1 q2 q3 : Value} {K : Nat} {W w : World} {w' : World} (h : T8 A C X ax ay cx cy q0 q1 q2 q3 K W w) (hK : K ≤ W.heap.size) (g : Below w.heap.size w w') : T8 A C X ax ay cx cy q0 q1 q2 q3 K W w' :=
  ⟨below_cell h.1 g, below_cell h.2.1 g, below_cell h.2.2.1 g, below_cell h.2.2.2.1 g, below_cell h.2.2.2.2.1 g, below_cell h.2.2.2.2.2.1 g, below_cell h.2.2.2.2.2.2.1 g, below_cell h.2.2.2.2.2.2.2.1 g, h.2.2.2.2.2.2.2.2.trans (g.mono (Nat.le_trans hK h.2.2.2.2.2.2.2.2.size))⟩
theorem T8.al {A C X : Nat} {ax ay cx cy : Int} {q0 q1 q2 q3 : Value} {K : Nat} {W w : World} (h : T8 A C X ax ay cx cy q0 q1 q2 q3 K W w) (hK : K ≤ W.heap.size) (o : Obj) : T8 A C X ax ay cx cy q0 q1 q2 q3 K W (w.alloc o) := T8.call h hK ((Gr.refl _).alloc _).below
theorem T8.dr {A C X : Nat} {ax ay cx cy : Int} {q0 q1 q2 q3 : Value} {K : Nat} {W w : World} (h : T8 A C X ax ay cx cy q0 q1 q2 q3 K W w) : T8 A C X ax ay cx cy q0 q1 q2 q3 K W w.drew := ⟨h.1, h.2.1, h.2.2.1, h.2.2.2.1, h.2.2.2.2.1, h.2.2.2.2.2.1, h.2.2.2.2.2.2.1, h.2.2.2.2.2.2.2.1, h.2.2.2.2.2.2.2.2.drew⟩
theorem T8.set {A C X : Nat} {ax ay cx cy : Int} {q0 q1 q2 q3 : Value} {K : Nat} {W w : World} (h : T8 A C X ax ay cx cy q0 q1 q2 q3 K W w) {p : Addr} (hp : K ≤ p.block) (hA : A < K) (hC : C < K) (hX : X < K) (z : Value) : T8 A C X ax ay cx cy q0 q1 q2 q3 K W (w.setCell p z) :=
  have f : ∀ a : Addr, a.block < K → (w.setCell p z).cell? a = w.cell? a := fun a ha => World.cell?_setCell_far w p a z (by omega)
  ⟨(f _ hA).trans h.1, (f _ hA).trans h.2.1, (f _ hC).trans h.2.2.1, (f _ hC).trans h.2.2.2.1, (f _ hX).trans h.2.2.2.2.1, (f _ hX).trans h.2.2.2.2.2.1, (f _ hX).trans h.2.2.2.2.2.2.1, (f _ hX).trans h.2.2.2.2.2.2.2.1, h.2.2.2.2.2.2.2.2.setCell hp z⟩
theorem quo_sg (t D : Int) : quoN t 1 D 1 = sgN t D := by unfold quoN sgN; rw [Int.one_mul, Int.mul_one]
theorem quo_sd (D : Int) : quoD 1 D = sgN D D := by unfold quoD sgN; rw [Int.one_mul]
/-- A sequence from its n-th statement on. -/
def codeTail : Nat → Code → Code
  | 0, c => c
  | n + 1, .seq _ b => codeTail n b
  | _ + 1, c => c
def codeOf (f : Func) : Code := f.body.getD .skip
def codeHead (n : Nat) (c : Code) : Code := match codeTail n c with | .seq x _ => x | d => d
theorem cmp_lt0 {n m : Int} : Hid (cmpI n m < 0 ↔ n < m) := by
  unfold Hid cmpI
  split
  · omega
  · split <;> omega
theorem cmp_gt0 {n m : Int} : Hid (0 < cmpI n m ↔ m < n) := by
  unfold Hid cmpI
  split
  · omega
  · split <;> omega
set_option maxRecDepth 20000 in
set_option maxHeartbeats 4000000 in
theorem meet_t16 {u0 u1 u2 u3 u4 u5 u6 u7 u9 u10 u11 u12 u13 u15 u16 u18 u19 u20 u21 u22 u23 u24 u25 u26 u27 u28 u29 u30 u31 u32 u33 u34 u35 u36 u37 u38 u39 u40 u41 u42 u43 u44 u45 u46 u47 u48 u49 u50 u51 u52 u53 u54 u55 u56 u57 u58 u59 u60 u61 u62 u63 u64 u65 u66 u67 u68 u69 u70 u71 u72 u73 u74 u75 u76 u77 u78 u79 u80 u81 u82 u83 u84 u85 u86 u87 u88 u89 u90 u91 u92 u93 u94 u95 u96 u97 u98 u99 u100 u101 u102 u103 u104 u105 u106 u107 u108 u109 u110 u111 u112 u113 u114 u115 u116 u117 u118 u119 u120 u121 u122 u123 u124 u125 u126 u127 u128 u129 u130 u131 u132 u133 u134 u135 u136 u137 u138 u139 u140 u141 u142 u143 u144 u145 u146 u147 u148 u149 u150 u151 u152 u153 u154 u155 u156 u157 u158 u159 u160 u161 u162 u163 u164 u165 u166 u167 u168 u169 u170 u171 u172 u173 u174 u175 u176 u177 u178 u179 u180 u181 u182 u183 u184 u185 u186 u187 u188 u189 u190 u191 u192 : Value} (w wq : World) (R : Nat) (res : Mt) (X14 : Nat) (B : Bool) (tn dn : Int) (hR : w.heap.size ≤ R) (mR : M6 wq R (.int .u8 0) (.bool false) (.int .i64 0) (.int .i64 0) (.int .i64 0) (.int .i64 0)) (hB : Below w.heap.size w wq) (V14 : VL wq X14 tn dn 18) (h0 : 0 < dn) (h1 : dn ≤ 9223372036854775807) (h2 : tn.natAbs ≤ 9223372036854775807) (E : Hid (res = (1, B, lowF tn dn, lowF tn dn))) (Q : Exit → Act → World → Prop) (hQ : Q = bodyPost Try.prog Try.f7 (fun e w' => e = .returned (mtv res) ∧ Below w.heap.size w w')) (K : Act → World → Prop) (hK : ∀ a w, Code.wp Try.prog (codeTail 17 (codeOf Try.f7)) Q a w → K a w) :
    Code.wp Try.prog (codeHead 16 (codeOf Try.f7)) (Exit.then K Q) { tmps := #[u0, u1, u2, u3, u4, u5, u6, u7, .pointer (some ⟨R, 0, none⟩), u9, u10, u11, u12, u13, .pointer (some ⟨X14, 0, none⟩), u15, u16, .bool B, u18, u19, u20, u21, u22, u23, u24, u25, u26, u27, u28, u29, u30, u31, u32, u33, u34, u35, u36, u37, u38, u39, u40, u41, u42, u43, u44, u45, u46, u47, u48, u49, u50, u51, u52, u53, u54, u55, u56, u57, u58, u59, u60, u61, u62, u63, u64, u65, u66, u67, u68, u69, u70, u71, u72, u73, u74, u75, u76, u77, u78, u79, u80, u81, u82, u83, u84, u85, u86, u87, u88, u89, u90, u91, u92, u93, u94, u95, u96, u97, u98, u99, u100, u101, u102, u103, u104, u105, u106, u107, u108, u109, u110, u111, u112, u113, u114, u115, u116, u117, u118, u119, u120, u121, u122, u123, u124, u125, u126, u127, u128, u129, u130, u131, u132, u133, u134, u135, u136, u137, u138, u139, u140, u141, u142, u143, u144, u145, u146, u147, u148, u149, u150, u151, u152, u153, u154, u155, u156, u157, u158, u159, u160, u161, u162, u163, u164, u165, u166, u167, u168, u169, u170, u171, u172, u173, u174, u175, u176, u177, u178, u179, u180, u181, u182, u183, u184, u185, u186, u187, u188, u189, u190, u191, u192], defers := [] } wq := by
  dsimp only [codeHead, codeTail, codeOf, Try.f7, Option.getD] at hK ⊢
  subst hQ
  obtain ⟨r3, o3, l3, c3, R3, O3, M3, C3, k14, z3⟩ := V14
  have F := hid' (frac_any _ tn dn 18 wq z3 h0 h1 h2)
  clear z3 h0 h1 h2
  generalize lowF tn dn = f at *
  obtain ⟨fn, fd⟩ := f
  have x0 := k14.c0
  have x1 := k14.c1
  have x2 := k14.c2
  have x3 := k14.c3
  clear k14
  go_wp2_with fail
  refine F.out.mono ?_
  rintro e w1 ⟨rfl, g1⟩
  have g2 : Gr w1 (w1.alloc (.cells #[.int .i64 fn, .int .i64 fd] 28)) := (Gr.refl _).alloc _
  replace mR := (mR.gr g1).gr g2
  replace hB := hB.trans ((g1.trans g2).below.mono hB.size)
  clear g1 g2 x0 x1 x2 x3 F
  dsimp only
  go_upto_region 25 with fail
  have y0 : (w1.alloc (.cells #[.int .i64 fn, .int .i64 fd] 28)).cell? ⟨w1.heap.size, 0, none⟩ = some (.int .i64 fn) := by go_simp
  have y1 : (w1.alloc (.cells #[.int .i64 fn, .int .i64 fd] 28)).cell? ⟨w1.heap.size, 1, none⟩ = some (.int .i64 fd) := by go_simp
  generalize w1.alloc (.cells #[.int .i64 fn, .int .i64 fd] 28) = W at *
  generalize w1.heap.size = X18 at *
  have n0 := mR.c0
  have n1 := mR.c1
  have n2 := mR.c2
  have n3 := mR.c3
  have n4 := mR.c4
  have n5 := mR.c5
  have nf := mR.f
  go_wp2
  refine bodyPost_ret (v := mtv (1, B, (fn, fd), (fn, fd))) (by simp [results, Try.results7, go_sem, n0, n1, n2, n3, n4, n5]) rfl ⟨by rw [E.out], ?_⟩
  exact (((((hB.setCell (by simp only []; omega) _).setCell (by simp only []; omega) _).setCell (by simp only []; omega) _).setCell (by simp only []; omega) _).setCell (by simp only []; omega) _).setCell (by simp only []; omega) _
set_option maxRecDepth 20000 in
set_option maxHeartbeats 4000000 in
theorem meet_t15 {u0 u1 u2 u3 u4 u5 u6 u7 u9 u10 u11 u12 u13 u17 u18 u19 u20 u21 u22 u23 u24 u25 u26 u27 u28 u29 u30 u31 u32 u33 u34 u35 u36 u37 u38 u39 u40 u41 u42 u43 u44 u45 u46 u47 u48 u49 u50 u51 u52 u53 u54 u55 u56 u57 u58 u59 u60 u61 u62 u63 u64 u65 u66 u67 u68 u69 u70 u71 u72 u73 u74 u75 u76 u77 u78 u79 u80 u81 u82 u83 u84 u85 u86 u87 u88 u89 u90 u91 u92 u93 u94 u95 u96 u97 u98 u99 u100 u101 u102 u103 u104 u105 u106 u107 u108 u109 u110 u111 u112 u113 u114 u115 u116 u117 u118 u119 u120 u121 u122 u123 u124 u125 u126 u127 u128 u129 u130 u131 u132 u133 u134 u135 u136 u137 u138 u139 u140 u141 u142 u143 u144 u145 u146 u147 u148 u149 u150 u151 u152 u153 u154 u155 u156 u157 u158 u159 u160 u161 u162 u163 u164 u165 u166 u167 u168 u169 u170 u171 u172 u173 u174 u175 u176 u177 u178 u179 u180 u181 u182 u183 u184 u185 u186 u187 u188 u189 u190 u191 u192 : Value} (w wq : World) (R : Nat) (res : Mt) (X14 X15 X16 : Nat) (tn sn dn : Int) (hR : w.heap.size ≤ R) (mR : M6 wq R (.int .u8 0) (.bool false) (.int .i64 0) (.int .i64 0) (.int .i64 0) (.int .i64 0)) (hB : Below w.heap.size w wq) (V14 : VL wq X14 tn dn 18) (V15 : VL wq X15 sn dn 18) (V16 : VL wq X16 1 1 2) (h0 : 0 < dn) (h1 : dn ≤ 9223372036854775807) (h2 : tn.natAbs ≤ 9223372036854775807) (E : Hid (res = (1, decide ((0 < tn ∧ tn < dn) ∧ (0 < sn ∧ sn < dn)), lowF tn dn, lowF tn dn))) (Q : Exit → Act → World → Prop) (hQ : Q = bodyPost Try.prog Try.f7 (fun e w' => e = .returned (mtv res) ∧ Below w.heap.size w w')) (K : Act → World → Prop) (hK : ∀ a w, Code.wp Try.prog (codeTail 16 (codeOf Try.f7)) Q a w → K a w) :
    Code.wp Try.prog (codeHead 15 (codeOf Try.f7)) (Exit.then K Q) { tmps := #[u0, u1, u2, u3, u4, u5, u6, u7, .pointer (some ⟨R, 0, none⟩), u9, u10, u11, u12, u13, .pointer (some ⟨X14, 0, none⟩), .pointer (some ⟨X15, 0, none⟩), .pointer (some ⟨X16, 0, none⟩), u17, u18, u19, u20, u21, u22, u23, u24, u25, u26, u27, u28, u29, u30, u31, u32, u33, u34, u35, u36, u37, u38, u39, u40, u41, u42, u43, u44, u45, u46, u47, u48, u49, u50, u51, u52, u53, u54, u55, u56, u57, u58, u59, u60, u61, u62, u63, u64, u65, u66, u67, u68, u69, u70, u71, u72, u73, u74, u75, u76, u77, u78, u79, u80, u81, u82, u83, u84, u85, u86, u87, u88, u89, u90, u91, u92, u93, u94, u95, u96, u97, u98, u99, u100, u101, u102, u103, u104, u105, u106, u107, u108, u109, u110, u111, u112, u113, u114, u115, u116, u117, u118, u119, u120, u121, u122, u123, u124, u125, u126, u127, u128, u129, u130, u131, u132, u133, u134, u135, u136, u137, u138, u139, u140, u141, u142, u143, u144, u145, u146, u147, u148, u149, u150, u151, u152, u153, u154, u155, u156, u157, u158, u159, u160, u161, u162, u163, u164, u165, u166, u167, u168, u169, u170, u171, u172, u173, u174, u175, u176, u177, u178, u179, u180, u181, u182, u183, u184, u185, u186, u187, u188, u189, u190, u191, u192], defers := [] } wq := by
  dsimp only [codeHead, codeTail, codeOf, Try.f7, Option.getD] at hK ⊢
  subst hQ
  obtain ⟨r4, o4, l4, c4, R4, O4, M4, C4, k14, z14⟩ := V14
  replace z14 := hid' z14
  obtain ⟨r5, o5, l5, c5, R5, O5, M5, C5, k15, z15⟩ := V15
  replace z15 := hid' z15
  obtain ⟨r6, o6, l6, c6, R6, O6, M6, C6, k16, z16⟩ := V16
  replace z16 := hid' z16
  have x140 := k14.c0
  have x141 := k14.c1
  have x142 := k14.c2
  have x143 := k14.c3
  go_wp2_with fail
  refine (rsign_rt _ tn dn 18 _ z14.out).mono ?_
  rintro e w1 ⟨rfl, g1⟩
  dsimp only
  replace mR := mR.mono g1 mR.lt
  replace hB := hB.trans (g1.mono hB.size)
  replace k14 := k14.mono g1 k14.lt
  replace z14 := hid' (z14.out.mono g1)
  replace k15 := k15.mono g1 k15.lt
  replace z15 := hid' (z15.out.mono g1)
  replace k16 := k16.mono g1 k16.lt
  replace z16 := hid' (z16.out.mono g1)
  clear g1 x140 x141 x142 x143
  have q1 := @cmp_gt0 tn 0
  generalize cmpI tn 0 = C1 at *
  by_cases p1 : 0 < tn
  rotate_left
  · have hc : C1 ≤ 0 := Int.not_lt.mp (fun g => p1 (q1.out.mp g))
    clear q1
    go_upto_region 24 with fail
    exact meet_t16 w _ R res X14 false tn dn hR mR hB ⟨_, _, _, _, _, _, _, _, k14, z14.out⟩ h0 h1 h2 (by unfold Hid; rw [E.out, show decide ((0 < tn ∧ tn < dn) ∧ (0 < sn ∧ sn < dn)) = false from by simp; omega]) _ rfl _ (by assumption)
  have hc1 := q1.out.mpr p1
  clear q1
  have x140 := k14.c0
  have x141 := k14.c1
  have x142 := k14.c2
  have x143 := k14.c3
  have x160 := k16.c0
  have x161 := k16.c1
  have x162 := k16.c2
  have x163 := k16.c3
  go_wp2_with fail
  refine (rcmp_rt _ _ tn dn 1 1 18 2 _ z14.out z16.out (by omega)).mono ?_
  rintro e w2 ⟨rfl, g2⟩
  dsimp only
  replace mR := mR.mono g2 mR.lt
  replace hB := hB.trans (g2.mono hB.size)
  replace k14 := k14.mono g2 k14.lt
  replace z14 := hid' (z14.out.mono g2)
  replace k15 := k15.mono g2 k15.lt
  replace z15 := hid' (z15.out.mono g2)
  replace k16 := k16.mono g2 k16.lt
  replace z16 := hid' (z16.out.mono g2)
  clear g2 x140 x141 x142 x143 x160 x161 x162 x163
  rw [Int.mul_one, Int.one_mul]
  have q2 := @cmp_lt0 tn dn
  generalize cmpI tn dn = C2 at *
  by_cases p2 : tn < dn
  rotate_left
  · have hc : 0 ≤ C2 := Int.not_lt.mp (fun g => p2 (q2.out.mp g))
    clear q2
    go_upto_region 24 with fail
    exact meet_t16 w _ R res X14 false tn dn hR mR hB ⟨_, _, _, _, _, _, _, _, k14, z14.out⟩ h0 h1 h2 (by unfold Hid; rw [E.out, show decide ((0 < tn ∧ tn < dn) ∧ (0 < sn ∧ sn < dn)) = false from by simp; omega]) _ rfl _ (by assumption)
  have hc2 := q2.out.mpr p2
  clear q2
  have x150 := k15.c0
  have x151 := k15.c1
  have x152 := k15.c2
  have x153 := k15.c3
  go_wp2_with fail
  refine (rsign_rt _ sn dn 18 _ z15.out).mono ?_
  rintro e w3 ⟨rfl, g3⟩
  dsimp only
  replace mR := mR.mono g3 mR.lt
  replace hB := hB.trans (g3.mono hB.size)
  replace k14 := k14.mono g3 k14.lt
  replace z14 := hid' (z14.out.mono g3)
  replace k15 := k15.mono g3 k15.lt
  replace z15 := hid' (z15.out.mono g3)
  replace k16 := k16.mono g3 k16.lt
  replace z16 := hid' (z16.out.mono g3)
  clear g3 x150 x151 x152 x153
  have q3 := @cmp_gt0 sn 0
  generalize cmpI sn 0 = C3 at *
  by_cases p3 : 0 < sn
  rotate_left
  · have hc : C3 ≤ 0 := Int.not_lt.mp (fun g => p3 (q3.out.mp g))
    clear q3
    go_upto_region 24 with fail
    exact meet_t16 w _ R res X14 false tn dn hR mR hB ⟨_, _, _, _, _, _, _, _, k14, z14.out⟩ h0 h1 h2 (by unfold Hid; rw [E.out, show decide ((0 < tn ∧ tn < dn) ∧ (0 < sn ∧ sn < dn)) = false from by simp; omega]) _ rfl _ (by assumption)
  have hc3 := q3.out.mpr p3
  clear q3
  have x150 := k15.c0
  have x151 := k15.c1
  have x152 := k15.c2
  have x153 := k15.c3
  have x160 := k16.c0
  have x161 := k16.c1
  have x162 := k16.c2
  have x163 := k16.c3
  go_wp2_with fail
  refine (rcmp_rt _ _ sn dn 1 1 18 2 _ z15.out z16.out (by omega)).mono ?_
  rintro e w4 ⟨rfl, g4⟩
  dsimp only
  replace mR := mR.mono g4 mR.lt
  replace hB := hB.trans (g4.mono hB.size)
  replace k14 := k14.mono g4 k14.lt
  replace z14 := hid' (z14.out.mono g4)
  replace k15 := k15.mono g4 k15.lt
  replace z15 := hid' (z15.out.mono g4)
  replace k16 := k16.mono g4 k16.lt
  replace z16 := hid' (z16.out.mono g4)
  clear g4 x150 x151 x152 x153 x160 x161 x162 x163
  rw [Int.mul_one, Int.one_mul]
  have q4 := @cmp_lt0 sn dn
  generalize cmpI sn dn = C4 at *
  go_upto_region 24 with fail
  exact meet_t16 w _ R res X14 (decide (C4 < 0)) tn dn hR mR hB ⟨_, _, _, _, _, _, _, _, k14, z14.out⟩ h0 h1 h2 (by unfold Hid; rw [E.out, show decide ((0 < tn ∧ tn < dn) ∧ (0 < sn ∧ sn < dn)) = decide (C4 < 0) from decide_eq_decide.mpr ⟨fun h => q4.out.mpr h.2.2, fun h => ⟨⟨p1, p2⟩, p3, q4.out.mp h⟩⟩]) _ rfl _ (by assumption)
set_option maxRecDepth 20000 in
set_option maxHeartbeats 4000000 in
theorem meet_t13 {u0 u1 u2 u3 u4 u5 u6 u7 u9 u10 u11 u12 u13 u16 u17 u18 u19 u20 u21 u22 u23 u24 u25 u26 u27 u28 u29 u30 u31 u32 u33 u34 u35 u36 u37 u38 u39 u40 u41 u42 u43 u44 u45 u46 u47 u48 u49 u50 u51 u52 u53 u54 u55 u56 u57 u58 u59 u60 u61 u62 u63 u64 u65 u66 u67 u68 u69 u70 u71 u72 u73 u74 u75 u76 u77 u78 u79 u80 u81 u82 u83 u84 u85 u86 u87 u88 u89 u90 u91 u92 u93 u94 u95 u96 u97 u98 u99 u100 u101 u102 u103 u104 u105 u106 u107 u108 u109 u110 u111 u112 u113 u114 u115 u116 u117 u118 u119 u120 u121 u122 u123 u124 u125 u126 u127 u128 u129 u130 u131 u132 u133 u134 u135 u136 u137 u138 u139 u140 u141 u142 u143 u144 u145 u146 u147 u148 u149 u150 u151 u152 u153 u154 u155 u156 u157 u158 u159 u160 u161 u162 u163 u164 u165 u166 u167 u168 u169 u170 u171 u172 u173 u174 u175 u176 u177 u178 u179 u180 u181 u182 u183 u184 u185 u186 u187 u188 u189 u190 u191 u192 : Value} (w wq : World) (R : Nat) (res : Mt) (X14 X15 : Nat) (tn sn dn : Int) (hR : w.heap.size ≤ R) (mR : M6 wq R (.int .u8 0) (.bool false) (.int .i64 0) (.int .i64 0) (.int .i64 0) (.int .i64 0)) (hB : Below w.heap.size w wq) (V14 : VL wq X14 tn dn 18) (V15 : VL wq X15 sn dn 18) (h0 : 0 < dn) (h1 : dn ≤ 9223372036854775807) (E : Hid (res = if tn < 0 ∨ dn < tn ∨ sn < 0 ∨ dn < sn then mt0 else (1, decide ((0 < tn ∧ tn < dn) ∧ (0 < sn ∧ sn < dn)), lowF tn dn, lowF tn dn))) (Q : Exit → Act → World → Prop) (hQ : Q = bodyPost Try.prog Try.f7 (fun e w' => e = .returned (mtv res) ∧ Below w.heap.size w w')) (K : Act → World → Prop) (hK : ∀ a w, Code.wp Try.prog (codeTail 14 (codeOf Try.f7)) Q a w → K a w) :
    Code.wp Try.prog (codeHead 13 (codeOf Try.f7)) (Exit.then K Q) { tmps := #[u0, u1, u2, u3, u4, u5, u6, u7, .pointer (some ⟨R, 0, none⟩), u9, u10, u11, u12, u13, .pointer (some ⟨X14, 0, none⟩), .pointer (some ⟨X15, 0, none⟩), u16, u17, u18, u19, u20, u21, u22, u23, u24, u25, u26, u27, u28, u29, u30, u31, u32, u33, u34, u35, u36, u37, u38, u39, u40, u41, u42, u43, u44, u45, u46, u47, u48, u49, u50, u51, u52, u53, u54, u55, u56, u57, u58, u59, u60, u61, u62, u63, u64, u65, u66, u67, u68, u69, u70, u71, u72, u73, u74, u75, u76, u77, u78, u79, u80, u81, u82, u83, u84, u85, u86, u87, u88, u89, u90, u91, u92, u93, u94, u95, u96, u97, u98, u99, u100, u101, u102, u103, u104, u105, u106, u107, u108, u109, u110, u111, u112, u113, u114, u115, u116, u117, u118, u119, u120, u121, u122, u123, u124, u125, u126, u127, u128, u129, u130, u131, u132, u133, u134, u135, u136, u137, u138, u139, u140, u141, u142, u143, u144, u145, u146, u147, u148, u149, u150, u151, u152, u153, u154, u155, u156, u157, u158, u159, u160, u161, u162, u163, u164, u165, u166, u167, u168, u169, u170, u171, u172, u173, u174, u175, u176, u177, u178, u179, u180, u181, u182, u183, u184, u185, u186, u187, u188, u189, u190, u191, u192], defers := [] } wq := by
  dsimp only [codeHead, codeTail, codeOf, Try.f7, Option.getD] at hK ⊢
  subst hQ
  have W1 := hid' (fun W => whole_rt 1 W (by omega) (by omega))
  go_wp2_with fail
  refine (W1.out _).mono ?_
  rintro e w0 ⟨z, rfl, hz, g0⟩
  obtain ⟨r3, o3, l3, c3, R3, O3, M3, C3, rfl, z3⟩ := hz.shape
  have g2 : Below w0.heap.size w0 (w0.alloc (.cells #[.bool r3, .slice o3 l3 c3, .bool R3, .slice O3 M3 C3] 53)) := ((Gr.refl _).alloc _).below
  replace g0 := g0.trans (g2.mono g0.size)
  replace mR := mR.mono g0 mR.lt
  replace hB := hB.trans (g0.mono hB.size)
  replace V14 := V14.mono g0
  replace V15 := V15.mono g0
  have V16 : VL (w0.alloc (.cells #[.bool r3, .slice o3 l3 c3, .bool R3, .slice O3 M3 C3] 53)) w0.heap.size 1 1 2 := VL.new z3.out
  clear hz z3 g0 g2 W1
  dsimp only
  go_upto_region 21 with fail
  generalize w0.alloc (.cells #[.bool r3, .slice o3 l3 c3, .bool R3, .slice O3 M3 C3] 53) = W at *
  generalize w0.heap.size = X16 at *
  obtain ⟨r4, o4, l4, c4, R4, O4, M4, C4, k14, z14⟩ := V14
  replace z14 := hid' z14
  obtain ⟨r5, o5, l5, c5, R5, O5, M5, C5, k15, z15⟩ := V15
  replace z15 := hid' z15
  obtain ⟨r6, o6, l6, c6, R6, O6, M6, C6, k16, z16⟩ := V16
  replace z16 := hid' z16
  have x140 := k14.c0
  have x141 := k14.c1
  have x142 := k14.c2
  have x143 := k14.c3
  go_wp2_with fail
  refine (rsign_rt _ tn dn 18 _ z14.out).mono ?_
  rintro e w1 ⟨rfl, g1⟩
  dsimp only
  replace mR := mR.mono g1 mR.lt
  replace hB := hB.trans (g1.mono hB.size)
  replace k14 := k14.mono g1 k14.lt
  replace z14 := hid' (z14.out.mono g1)
  replace k15 := k15.mono g1 k15.lt
  replace z15 := hid' (z15.out.mono g1)
  replace k16 := k16.mono g1 k16.lt
  replace z16 := hid' (z16.out.mono g1)
  clear g1 x140 x141 x142 x143
  have q1 := @cmp_lt0 tn 0
  generalize cmpI tn 0 = C1 at *
  by_cases p1 : tn < 0
  · have hc := q1.out.mpr p1
    have e : Hid (res = mt0) := by unfold Hid; rw [E.out, if_pos (by omega)]
    clear q1 E k14 k15 k16 z14 z15 z16
    have n0 := mR.c0
    have n1 := mR.c1
    have n2 := mR.c2
    have n3 := mR.c3
    have n4 := mR.c4
    have n5 := mR.c5
    have nf := mR.f
    go_wp2
    refine bodyPost_ret (v := mtv mt0) (by simp [results, Try.results7, go_sem, n0, n1, n2, n3, n4, n5, mt0]) rfl ⟨by rw [e.out], ?_⟩
    exact (((((hB.setCell (by simp only []; omega) _).setCell (by simp only []; omega) _).setCell (by simp only []; omega) _).setCell (by simp only []; omega) _).setCell (by simp only []; omega) _).setCell (by simp only []; omega) _
  have hc1 : 0 ≤ C1 := Int.not_lt.mp (fun g => p1 (q1.out.mp g))
  clear q1
  have x140 := k14.c0
  have x141 := k14.c1
  have x142 := k14.c2
  have x143 := k14.c3
  have x160 := k16.c0
  have x161 := k16.c1
  have x162 := k16.c2
  have x163 := k16.c3
  go_wp2_with fail
  refine (rcmp_rt _ _ tn dn 1 1 18 2 _ z14.out z16.out (by omega)).mono ?_
  rintro e w2 ⟨rfl, g2⟩
  dsimp only
  replace mR := mR.mono g2 mR.lt
  replace hB := hB.trans (g2.mono hB.size)
  replace k14 := k14.mono g2 k14.lt
  replace z14 := hid' (z14.out.mono g2)
  replace k15 := k15.mono g2 k15.lt
  replace z15 := hid' (z15.out.mono g2)
  replace k16 := k16.mono g2 k16.lt
  replace z16 := hid' (z16.out.mono g2)
  clear g2 x140 x141 x142 x143 x160 x161 x162 x163
  rw [Int.mul_one, Int.one_mul]
  have q2 := @cmp_gt0 tn dn
  generalize cmpI tn dn = C2 at *
  by_cases p2 : dn < tn
  · have hc := q2.out.mpr p2
    have e : Hid (res = mt0) := by unfold Hid; rw [E.out, if_pos (by omega)]
    clear q2 E k14 k15 k16 z14 z15 z16
    have n0 := mR.c0
    have n1 := mR.c1
    have n2 := mR.c2
    have n3 := mR.c3
    have n4 := mR.c4
    have n5 := mR.c5
    have nf := mR.f
    go_wp2
    refine bodyPost_ret (v := mtv mt0) (by simp [results, Try.results7, go_sem, n0, n1, n2, n3, n4, n5, mt0]) rfl ⟨by rw [e.out], ?_⟩
    exact (((((hB.setCell (by simp only []; omega) _).setCell (by simp only []; omega) _).setCell (by simp only []; omega) _).setCell (by simp only []; omega) _).setCell (by simp only []; omega) _).setCell (by simp only []; omega) _
  have hc2 : C2 ≤ 0 := Int.not_lt.mp (fun g => p2 (q2.out.mp g))
  clear q2
  have x150 := k15.c0
  have x151 := k15.c1
  have x152 := k15.c2
  have x153 := k15.c3
  go_wp2_with fail
  refine (rsign_rt _ sn dn 18 _ z15.out).mono ?_
  rintro e w3 ⟨rfl, g3⟩
  dsimp only
  replace mR := mR.mono g3 mR.lt
  replace hB := hB.trans (g3.mono hB.size)
  replace k14 := k14.mono g3 k14.lt
  replace z14 := hid' (z14.out.mono g3)
  replace k15 := k15.mono g3 k15.lt
  replace z15 := hid' (z15.out.mono g3)
  replace k16 := k16.mono g3 k16.lt
  replace z16 := hid' (z16.out.mono g3)
  clear g3 x150 x151 x152 x153
  have q3 := @cmp_lt0 sn 0
  generalize cmpI sn 0 = C3 at *
  by_cases p3 : sn < 0
  · have hc := q3.out.mpr p3
    have e : Hid (res = mt0) := by unfold Hid; rw [E.out, if_pos (by omega)]
    clear q3 E k14 k15 k16 z14 z15 z16
    have n0 := mR.c0
    have n1 := mR.c1
    have n2 := mR.c2
    have n3 := mR.c3
    have n4 := mR.c4
    have n5 := mR.c5
    have nf := mR.f
    go_wp2
    refine bodyPost_ret (v := mtv mt0) (by simp [results, Try.results7, go_sem, n0, n1, n2, n3, n4, n5, mt0]) rfl ⟨by rw [e.out], ?_⟩
    exact (((((hB.setCell (by simp only []; omega) _).setCell (by simp only []; omega) _).setCell (by simp only []; omega) _).setCell (by simp only []; omega) _).setCell (by simp only []; omega) _).setCell (by simp only []; omega) _
  have hc3 : 0 ≤ C3 := Int.not_lt.mp (fun g => p3 (q3.out.mp g))
  clear q3
  have x150 := k15.c0
  have x151 := k15.c1
  have x152 := k15.c2
  have x153 := k15.c3
  have x160 := k16.c0
  have x161 := k16.c1
  have x162 := k16.c2
  have x163 := k16.c3
  go_wp2_with fail
  refine (rcmp_rt _ _ sn dn 1 1 18 2 _ z15.out z16.out (by omega)).mono ?_
  rintro e w4 ⟨rfl, g4⟩
  dsimp only
  replace mR := mR.mono g4 mR.lt
  replace hB := hB.trans (g4.mono hB.size)
  replace k14 := k14.mono g4 k14.lt
  replace z14 := hid' (z14.out.mono g4)
  replace k15 := k15.mono g4 k15.lt
  replace z15 := hid' (z15.out.mono g4)
  replace k16 := k16.mono g4 k16.lt
  replace z16 := hid' (z16.out.mono g4)
  clear g4 x150 x151 x152 x153 x160 x161 x162 x163
  rw [Int.mul_one, Int.one_mul]
  have q4 := @cmp_gt0 sn dn
  generalize cmpI sn dn = C4 at *
  by_cases p4 : dn < sn
  · have hc := q4.out.mpr p4
    have e : Hid (res = mt0) := by unfold Hid; rw [E.out, if_pos (by omega)]
    clear q4 E k14 k15 k16 z14 z15 z16
    have n0 := mR.c0
    have n1 := mR.c1
    have n2 := mR.c2
    have n3 := mR.c3
    have n4 := mR.c4
    have n5 := mR.c5
    have nf := mR.f
    go_wp2
    refine bodyPost_ret (v := mtv mt0) (by simp [results, Try.results7, go_sem, n0, n1, n2, n3, n4, n5, mt0]) rfl ⟨by rw [e.out], ?_⟩
    exact (((((hB.setCell (by simp only []; omega) _).setCell (by simp only []; omega) _).setCell (by simp only []; omega) _).setCell (by simp only []; omega) _).setCell (by simp only []; omega) _).setCell (by simp only []; omega) _
  have hc4 : C4 ≤ 0 := Int.not_lt.mp (fun g => p4 (q4.out.mp g))
  clear q4
  replace E : Hid (res = (1, decide ((0 < tn ∧ tn < dn) ∧ (0 < sn ∧ sn < dn)), lowF tn dn, lowF tn dn)) := by unfold Hid; rw [E.out, if_neg (by omega)]
  go_upto_region 23 with fail
  exact meet_t15 w _ R res X14 X15 X16 tn sn dn hR mR hB ⟨_, _, _, _, _, _, _, _, k14, z14.out⟩ ⟨_, _, _, _, _, _, _, _, k15, z15.out⟩ ⟨_, _, _, _, _, _, _, _, k16, z16.out⟩ h0 h1 (by omega) E _ rfl _ (by assumption)
end Go.Proofs.Ytagabccaipfjeaa
