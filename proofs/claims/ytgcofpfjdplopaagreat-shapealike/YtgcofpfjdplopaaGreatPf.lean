/- ring's pairFault: what is wrong with two edges. -/
import Derived.Test.YtgcofpfjdplopaaGreatCkJ
import Derived.Test.YtgcofpfjdplopaaGreatSg9
namespace Go.Proofs.YtgcofpfjdplopaaGreat
section
open Go.RowKit Go.Shelf Go.Sort

abbrev TC8 (a0 a1 a2 a3 a4 a5 a6 a7 : Addr) (v0 v1 v2 v3 v4 v5 v6 v7 : Value) (K : Nat) (W w : World) : Prop := w.cell? a0 = some v0 ∧ w.cell? a1 = some v1 ∧ w.cell? a2 = some v2 ∧ w.cell? a3 = some v3 ∧ w.cell? a4 = some v4 ∧ w.cell? a5 = some v5 ∧ w.cell? a6 = some v6 ∧ w.cell? a7 = some v7 ∧ Below K W w
theorem TC8.call {a0 a1 a2 a3 a4 a5 a6 a7 : Addr} {v0 v1 v2 v3 v4 v5 v6 v7 : Value} {K : Nat} {W w : World} {w' : World} (h : TC8 a0 a1 a2 a3 a4 a5 a6 a7 v0 v1 v2 v3 v4 v5 v6 v7 K W w) (hK : K ≤ W.heap.size) (g : Below w.heap.size w w') : TC8 a0 a1 a2 a3 a4 a5 a6 a7 v0 v1 v2 v3 v4 v5 v6 v7 K W w' :=
  ⟨below_cell h.1 g, below_cell h.2.1 g, below_cell h.2.2.1 g, below_cell h.2.2.2.1 g, below_cell h.2.2.2.2.1 g, below_cell h.2.2.2.2.2.1 g, below_cell h.2.2.2.2.2.2.1 g, below_cell h.2.2.2.2.2.2.2.1 g, h.2.2.2.2.2.2.2.2.trans (g.mono (Nat.le_trans hK h.2.2.2.2.2.2.2.2.size))⟩
theorem TC8.al {a0 a1 a2 a3 a4 a5 a6 a7 : Addr} {v0 v1 v2 v3 v4 v5 v6 v7 : Value} {K : Nat} {W w : World} (h : TC8 a0 a1 a2 a3 a4 a5 a6 a7 v0 v1 v2 v3 v4 v5 v6 v7 K W w) (hK : K ≤ W.heap.size) (o : Obj) : TC8 a0 a1 a2 a3 a4 a5 a6 a7 v0 v1 v2 v3 v4 v5 v6 v7 K W (w.alloc o) := TC8.call h hK ((Gr.refl _).alloc _).below
theorem TC8.dr {a0 a1 a2 a3 a4 a5 a6 a7 : Addr} {v0 v1 v2 v3 v4 v5 v6 v7 : Value} {K : Nat} {W w : World} (h : TC8 a0 a1 a2 a3 a4 a5 a6 a7 v0 v1 v2 v3 v4 v5 v6 v7 K W w) : TC8 a0 a1 a2 a3 a4 a5 a6 a7 v0 v1 v2 v3 v4 v5 v6 v7 K W w.drew := ⟨h.1, h.2.1, h.2.2.1, h.2.2.2.1, h.2.2.2.2.1, h.2.2.2.2.2.1, h.2.2.2.2.2.2.1, h.2.2.2.2.2.2.2.1, h.2.2.2.2.2.2.2.2.drew⟩
theorem TC8.set {a0 a1 a2 a3 a4 a5 a6 a7 : Addr} {v0 v1 v2 v3 v4 v5 v6 v7 : Value} {K : Nat} {W w : World} (h : TC8 a0 a1 a2 a3 a4 a5 a6 a7 v0 v1 v2 v3 v4 v5 v6 v7 K W w) {p : Addr} (hp : K ≤ p.block) (q : a0.block < K ∧ a1.block < K ∧ a2.block < K ∧ a3.block < K ∧ a4.block < K ∧ a5.block < K ∧ a6.block < K ∧ a7.block < K) (z : Value) : TC8 a0 a1 a2 a3 a4 a5 a6 a7 v0 v1 v2 v3 v4 v5 v6 v7 K W (w.setCell p z) :=
  have f : ∀ a : Addr, a.block < K → (w.setCell p z).cell? a = w.cell? a := fun a ha => World.cell?_setCell_far w p a z (by omega)
  ⟨(f _ q.1).trans h.1, (f _ q.2.1).trans h.2.1, (f _ q.2.2.1).trans h.2.2.1, (f _ q.2.2.2.1).trans h.2.2.2.1, (f _ q.2.2.2.2.1).trans h.2.2.2.2.1, (f _ q.2.2.2.2.2.1).trans h.2.2.2.2.2.1, (f _ q.2.2.2.2.2.2.1).trans h.2.2.2.2.2.2.1, (f _ q.2.2.2.2.2.2.2).trans h.2.2.2.2.2.2.2.1, h.2.2.2.2.2.2.2.2.setCell hp z⟩

def nxt (n k : Nat) : Nat := (k + 1) % n
/-- What is wrong with the edges i and j. -/
def pfI (L : List (Int × Int)) (i j : Nat) : Int :=
  if nxt L.length i = j ∨ nxt L.length j = i then (if (meetA (pAt L i) (pAt L (i + 1)) (pAt L j) (pAt L (j + 1))).1 = 2 then 63 else 0)
  else (if (meetA (pAt L i) (pAt L (i + 1)) (pAt L j) (pAt L (j + 1))).1 = 0 then 0 else 64)

set_option maxRecDepth 100000 in
set_option maxHeartbeats 16000000 in
theorem pair_any (ao : Option Addr) (cap : Nat) (L : List (Int × Int)) (hlen : L.length ≤ 17592186043904) (i j : Nat) (hi : i < L.length) (hj : j < L.length) (w : World) (hP : Pts w ao L) :
    Calls Tryz.prog 122 #[.slice ao L.length cap, .int .i64 (i : Int), .int .i64 (j : Int)] w fun e w' => e = .returned (.int .i64 (pfI L i j)) ∧ Below w.heap.size w w' := by
  have hni : nxt L.length i < L.length := Nat.mod_lt _ (by omega)
  have hnj : nxt L.length j < L.length := Nat.mod_lt _ (by omega)
  obtain ⟨b, off, rfl, a0, a1⟩ := hP i hi
  obtain ⟨b', off', e, b0, b1⟩ := hP (nxt L.length i) hni
  cases e
  obtain ⟨b', off', e, c0, c1⟩ := hP j hj
  cases e
  obtain ⟨b', off', e, d0, d1⟩ := hP (nxt L.length j) hnj
  cases e
  have NX : Hid (∀ (k : Nat) W, k < L.length → Calls Tryz.prog 112 #[.slice (some ⟨b, off, none⟩) L.length cap, .int .i64 (k : Int)] W fun e w' => e = .returned (.int .i64 ((nxt L.length k : Nat) : Int)) ∧ w' = W) := fun k W hk => next_any _ cap L.length hlen k hk W
  have MT : Hid (∀ W, Calls Tryz.prog 127 #[pt (L.getD i (0, 0)).1 (L.getD i (0, 0)).2, pt (L.getD (nxt L.length i) (0, 0)).1 (L.getD (nxt L.length i) (0, 0)).2, pt (L.getD j (0, 0)).1 (L.getD j (0, 0)).2, pt (L.getD (nxt L.length j) (0, 0)).1 (L.getD (nxt L.length j) (0, 0)).2] W fun e w' => e = .returned (mtv (meetA (pAt L i) (pAt L (i + 1)) (pAt L j) (pAt L (j + 1)))) ∧ Gr W w') := fun W => by
    rw [pAt_lt hi, pAt_lt hj]
    exact Meet_any _ _ _ _ W
  have hR : Hid (pfI L i j = if nxt L.length i = j ∨ nxt L.length j = i then (if (meetA (pAt L i) (pAt L (i + 1)) (pAt L j) (pAt L (j + 1))).1 = 2 then 63 else 0) else (if (meetA (pAt L i) (pAt L (i + 1)) (pAt L j) (pAt L (j + 1))).1 = 0 then 0 else 64)) := (by exact rfl)
  have hk : (meetA (pAt L i) (pAt L (i + 1)) (pAt L j) (pAt L (j + 1))).1 = 0 ∨ (meetA (pAt L i) (pAt L (i + 1)) (pAt L j) (pAt L (j + 1))).1 = 1 ∨ (meetA (pAt L i) (pAt L (i + 1)) (pAt L j) (pAt L (j + 1))).1 = 2 := by
    unfold meetA
    split
    · rw [meet_eq]; unfold meetT lineM crossM; repeat' split
      all_goals simp [mt0, oneM]
    · left; rfl
  clear hP
  generalize meetA (pAt L i) (pAt L (i + 1)) (pAt L j) (pAt L (j + 1)) = M at *
  obtain ⟨mk, mi, ⟨f1, f2⟩, ⟨g1, g2⟩⟩ := M
  simp only at hR hk
  unfold mtv at MT
  simp only at MT
  generalize (L.getD i (0, 0)).1 = ax at *
  generalize (L.getD i (0, 0)).2 = ay at *
  generalize (L.getD (nxt L.length i) (0, 0)).1 = bx_ at *
  generalize (L.getD (nxt L.length i) (0, 0)).2 = by_ at *
  generalize (L.getD j (0, 0)).1 = cx at *
  generalize (L.getD j (0, 0)).2 = cy at *
  generalize (L.getD (nxt L.length j) (0, 0)).1 = dx at *
  generalize (L.getD (nxt L.length j) (0, 0)).2 = dy at *
  have NI : Hid (∀ W, Calls Tryz.prog 112 #[.slice (some ⟨b, off, none⟩) L.length cap, .int .i64 (i : Int)] W fun e w' => e = .returned (.int .i64 ((nxt L.length i : Nat) : Int)) ∧ w' = W) := fun W => NX.out i W hi
  have NJ : Hid (∀ W, Calls Tryz.prog 112 #[.slice (some ⟨b, off, none⟩) L.length cap, .int .i64 (j : Int)] W fun e w' => e = .returned (.int .i64 ((nxt L.length j : Nat) : Int)) ∧ w' = W) := fun W => NX.out j W hj
  clear NX
  generalize nxt L.length i = ni at *
  generalize nxt L.length j = nj at *
  have hb : b < w.heap.size := World.block_lt_of_cell? w _ a0
  have hL : w.heap.size ≤ w.heap.size := Nat.le_refl _
  have hlt : Hid (b < w.heap.size ∧ b < w.heap.size ∧ b < w.heap.size ∧ b < w.heap.size ∧ b < w.heap.size ∧ b < w.heap.size ∧ b < w.heap.size ∧ b < w.heap.size) := ⟨hb, hb, hb, hb, hb, hb, hb, hb⟩
  go_enter Tryz.func122, Tryz.ntmps122
  go_upto_region 1 with fail
  go_cut [7] (fun s W => ∃ m, s = .pointer (some ⟨m, 0, none⟩) ∧ M6 W m (.int .u8 mk) (.bool mi) (.int .i64 f1) (.int .i64 f2) (.int .i64 g1) (.int .i64 g2) ∧ Below w.heap.size w W)
  case first =>
    have hSW : Hid (TC8 ⟨b, off + i * 2, none⟩ ⟨b, off + i * 2 + 1, none⟩ ⟨b, off + ni * 2, none⟩ ⟨b, off + ni * 2 + 1, none⟩ ⟨b, off + j * 2, none⟩ ⟨b, off + j * 2 + 1, none⟩ ⟨b, off + nj * 2, none⟩ ⟨b, off + nj * 2 + 1, none⟩ (.int .i32 ax) (.int .i32 ay) (.int .i32 bx_) (.int .i32 by_) (.int .i32 cx) (.int .i32 cy) (.int .i32 dx) (.int .i32 dy) w.heap.size w w) := ⟨a0, a1, b0, b1, c0, c1, d0, d1, Below.refl _ _⟩
    have hS0 : Hid (TC8 ⟨b, off + i * 2, none⟩ ⟨b, off + i * 2 + 1, none⟩ ⟨b, off + ni * 2, none⟩ ⟨b, off + ni * 2 + 1, none⟩ ⟨b, off + j * 2, none⟩ ⟨b, off + j * 2 + 1, none⟩ ⟨b, off + nj * 2, none⟩ ⟨b, off + nj * 2 + 1, none⟩ (.int .i32 ax) (.int .i32 ay) (.int .i32 bx_) (.int .i32 by_) (.int .i32 cx) (.int .i32 cy) (.int .i32 dx) (.int .i32 dy) w.heap.size w w.drew) := TC8.dr hSW.out
    clear hR hk
    go_region_held3 (TC8 ⟨b, off + i * 2, none⟩ ⟨b, off + i * 2 + 1, none⟩ ⟨b, off + ni * 2, none⟩ ⟨b, off + ni * 2 + 1, none⟩ ⟨b, off + j * 2, none⟩ ⟨b, off + j * 2 + 1, none⟩ ⟨b, off + nj * 2, none⟩ ⟨b, off + nj * 2 + 1, none⟩ (.int .i32 ax) (.int .i32 ay) (.int .i32 bx_) (.int .i32 by_) (.int .i32 cx) (.int .i32 cy) (.int .i32 dx) (.int .i32 dy) w.heap.size w)
      (repeat (first | with_reducible exact hS1.out | with_reducible exact hS0.out | with_reducible exact hSW.out | (with_reducible refine TC8.set ?_ (by simp only []; omega) hlt.out _) | (with_reducible refine TC8.al ?_ hL _) | (with_reducible refine TC8.dr ?_)))
      (first
        | (go_at_call_of 112 i; refine (NI.out _).mono ?_; rintro e y1 ⟨rfl, rfl⟩)
        | (go_at_call_of 112 j; refine (NJ.out _).mono ?_; rintro e y1 ⟨rfl, rfl⟩)
        | (go_at_call 127; refine (MT.out _).mono ?_; rintro e y2 ⟨rfl, gg⟩; have hS1 : Hid (TC8 ⟨b, off + i * 2, none⟩ ⟨b, off + i * 2 + 1, none⟩ ⟨b, off + ni * 2, none⟩ ⟨b, off + ni * 2 + 1, none⟩ ⟨b, off + j * 2, none⟩ ⟨b, off + j * 2 + 1, none⟩ ⟨b, off + nj * 2, none⟩ ⟨b, off + nj * 2 + 1, none⟩ (.int .i32 ax) (.int .i32 ay) (.int .i32 bx_) (.int .i32 by_) (.int .i32 cx) (.int .i32 cy) (.int .i32 dx) (.int .i32 dy) w.heap.size w y2) := (by first | exact TC8.call hS0.out hL gg.below | exact TC8.call (TC8.dr (TC8.al hSW.out hL _)) hL gg.below); have sz2 := hS1.out.2.2.2.2.2.2.2.2.size; first | (have m1 : M6 y2 w.heap.size (.int .u8 0) (.bool false) (.int .i64 0) (.int .i64 0) (.int .i64 0) (.int .i64 0) := (by exact ((M6.new w (.int .u8 0) (.bool false) (.int .i64 0) (.int .i64 0) (.int .i64 0) (.int .i64 0)).gr (Gr.refl _).drew).gr gg); have e0 := m1.c0; have e1 := m1.c1; have e2 := m1.c2; have e3 := m1.c3; have e4 := m1.c4; have e5 := m1.c5; have ef := m1.f) | skip))
    all_goals
      have hB2 := hS1.out.2.2.2.2.2.2.2.2
      go_wp2
      go_meet
      case rel =>
        first
          | exact ⟨_, rfl, (((((m1.s0 _).s1 _).s2 _).s3 _).s4 _).s5 _, (((((hB2.setCell (p := ⟨w.heap.size, 0, none⟩) (Nat.le_refl _) _).setCell (p := ⟨w.heap.size, 1, none⟩) (Nat.le_refl _) _).setCell (p := ⟨w.heap.size, 2, none⟩) (Nat.le_refl _) _).setCell (p := ⟨w.heap.size, 3, none⟩) (Nat.le_refl _) _).setCell (p := ⟨w.heap.size, 4, none⟩) (Nat.le_refl _) _).setCell (p := ⟨w.heap.size, 5, none⟩) (Nat.le_refl _) _⟩
          | exact ⟨_, rfl, M6.new y2 _ _ _ _ _ _, hB2.alloc hB2.size _⟩
  case rest =>
    obtain ⟨m, rfl, hm, hB⟩ := hcut
    have m0 := hm.c0
    clear MT a0 a1 b0 b1 c0 c1 d0 d1 hlt hL hm
    by_cases h1 : ni = j
    · have h1' : ((ni : Int) == (j : Int)) = true := by simp; omega
      rcases hk with rfl | rfl | rfl
      · have hv : Hid (pfI L i j = 0) := by unfold Hid; rw [hR.out]; simp [h1]
        clear hR
        go_wp2_with (first | (go_at_call_of 112 i; refine (NI.out _).mono ?_; rintro e y1 ⟨rfl, rfl⟩) | (go_at_call_of 112 j; refine (NJ.out _).mono ?_; rintro e y1 ⟨rfl, rfl⟩))
        go_ret
        exact ⟨by rw [hv.out]; rfl, hB⟩
      · have hv : Hid (pfI L i j = 0) := by unfold Hid; rw [hR.out]; simp [h1]
        clear hR
        go_wp2_with (first | (go_at_call_of 112 i; refine (NI.out _).mono ?_; rintro e y1 ⟨rfl, rfl⟩) | (go_at_call_of 112 j; refine (NJ.out _).mono ?_; rintro e y1 ⟨rfl, rfl⟩))
        go_ret
        exact ⟨by rw [hv.out]; rfl, hB⟩
      · have hv : Hid (pfI L i j = 63) := by unfold Hid; rw [hR.out]; simp [h1]
        clear hR
        go_wp2_with (first | (go_at_call_of 112 i; refine (NI.out _).mono ?_; rintro e y1 ⟨rfl, rfl⟩) | (go_at_call_of 112 j; refine (NJ.out _).mono ?_; rintro e y1 ⟨rfl, rfl⟩))
        go_ret
        exact ⟨by rw [hv.out]; rfl, hB⟩
    · have h1' : ((ni : Int) == (j : Int)) = false := by simp; omega
      by_cases h2 : nj = i
      · have h2' : ((nj : Int) == (i : Int)) = true := by simp; omega
        rcases hk with rfl | rfl | rfl
        · have hv : Hid (pfI L i j = 0) := by unfold Hid; rw [hR.out]; simp [h1, h2]
          clear hR
          go_wp2_with (first | (go_at_call_of 112 i; refine (NI.out _).mono ?_; rintro e y1 ⟨rfl, rfl⟩) | (go_at_call_of 112 j; refine (NJ.out _).mono ?_; rintro e y1 ⟨rfl, rfl⟩))
          go_ret
          exact ⟨by rw [hv.out]; rfl, hB⟩
        · have hv : Hid (pfI L i j = 0) := by unfold Hid; rw [hR.out]; simp [h1, h2]
          clear hR
          go_wp2_with (first | (go_at_call_of 112 i; refine (NI.out _).mono ?_; rintro e y1 ⟨rfl, rfl⟩) | (go_at_call_of 112 j; refine (NJ.out _).mono ?_; rintro e y1 ⟨rfl, rfl⟩))
          go_ret
          exact ⟨by rw [hv.out]; rfl, hB⟩
        · have hv : Hid (pfI L i j = 63) := by unfold Hid; rw [hR.out]; simp [h1, h2]
          clear hR
          go_wp2_with (first | (go_at_call_of 112 i; refine (NI.out _).mono ?_; rintro e y1 ⟨rfl, rfl⟩) | (go_at_call_of 112 j; refine (NJ.out _).mono ?_; rintro e y1 ⟨rfl, rfl⟩))
          go_ret
          exact ⟨by rw [hv.out]; rfl, hB⟩
      · have h2' : ((nj : Int) == (i : Int)) = false := by simp; omega
        rcases hk with rfl | rfl | rfl
        · have hv : Hid (pfI L i j = 0) := by unfold Hid; rw [hR.out]; simp [h1, h2]
          clear hR
          go_wp2_with (first | (go_at_call_of 112 i; refine (NI.out _).mono ?_; rintro e y1 ⟨rfl, rfl⟩) | (go_at_call_of 112 j; refine (NJ.out _).mono ?_; rintro e y1 ⟨rfl, rfl⟩))
          go_ret
          exact ⟨by rw [hv.out]; rfl, hB⟩
        · have hv : Hid (pfI L i j = 64) := by unfold Hid; rw [hR.out]; simp [h1, h2]
          clear hR
          go_wp2_with (first | (go_at_call_of 112 i; refine (NI.out _).mono ?_; rintro e y1 ⟨rfl, rfl⟩) | (go_at_call_of 112 j; refine (NJ.out _).mono ?_; rintro e y1 ⟨rfl, rfl⟩))
          go_ret
          exact ⟨by rw [hv.out]; rfl, hB⟩
        · have hv : Hid (pfI L i j = 64) := by unfold Hid; rw [hR.out]; simp [h1, h2]
          clear hR
          go_wp2_with (first | (go_at_call_of 112 i; refine (NI.out _).mono ?_; rintro e y1 ⟨rfl, rfl⟩) | (go_at_call_of 112 j; refine (NJ.out _).mono ?_; rintro e y1 ⟨rfl, rfl⟩))
          go_ret
          exact ⟨by rw [hv.out]; rfl, hB⟩
end
end Go.Proofs.YtgcofpfjdplopaaGreat
