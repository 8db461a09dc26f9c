/- TableBits' walk. -/
import Derived.Test.YtjnjpjpgokdciaaDoorSx
import Derived.Deep.CutBlock
set_option linter.unusedSimpArgs false
set_option linter.unusedVariables false
namespace Go.Proofs.YtjnjpjpgokdciaaDoor
open Go.RowKit Go.Sort Go.Shelf
attribute [local go_sem] Oper.semAt_some wide_fn
attribute [local simp] wide_fn

/-- A call on sets: what, on which, with which, with which number. -/
abbrev Ct := Int × Int × Int × Int
def Sts (w : World) (ao : Option Addr) (l : List Ct) : Prop := ∀ k x, l[k]? = some x → ∃ b off, ao = some ⟨b, off, none⟩ ∧ w.cell? ⟨b, off + k * 4, none⟩ = some (.int .i64 x.1) ∧ w.cell? ⟨b, off + k * 4 + 1, none⟩ = some (.int .i64 x.2.1) ∧ w.cell? ⟨b, off + k * 4 + 2, none⟩ = some (.int .i64 x.2.2.1) ∧ w.cell? ⟨b, off + k * 4 + 3, none⟩ = some (.int .i64 x.2.2.2)
theorem Sts.below {w w' : World} {ao : Option Addr} {l : List Ct} (h : Sts w ao l) (g : Below w.heap.size w w') : Sts w' ao l := fun k x hx => by
  obtain ⟨b, off, e, h0, h1, h2, h3⟩ := h k x hx
  exact ⟨b, off, e, below_cell h0 g, below_cell h1 g, below_cell h2 g, below_cell h3 g⟩
theorem own_mono {W : World} {B B' : Nat} {e : TypeId} {size n : Nat} {v : Value} {xs : List Value} (h : W.ownsRow B e size v n xs) (hb : B' ≤ B) : W.ownsRow B' e size v n xs := by
  obtain ⟨h1, h2⟩ := h
  refine ⟨h1, ?_⟩
  rcases h2 with h2 | ⟨g, cap, cur, rfl, hB, hb2⟩
  · exact .inl h2
  · exact .inr ⟨g, cap, cur, rfl, Nat.le_trans hb hB, hb2⟩
theorem memT_nil (n : Nat) : memT (List.replicate n false) = [] := memR_none (fun i _ _ => by rw [List.getD_eq_getElem?_getD, List.getElem?_replicate]; split <;> rfl)
theorem own_below {W W' : World} {B e size n : Nat} {v : Value} {xs : List Value} (h : W.ownsRow B e size v n xs) (c : Below W.heap.size W W') : W'.ownsRow B e size v n xs := by
  obtain ⟨h1, h2⟩ := h
  refine ⟨h1, ?_⟩
  rcases h2 with h2 | ⟨g, cap, cur, rfl, hB, hb, h3⟩
  · exact .inl h2
  · exact .inr ⟨g, cap, cur, rfl, hB, (c.block g (Array.getElem?_eq_some_iff.1 hb).1).trans hb, h3⟩
theorem own_chg {p : Nat → Prop} {W W' : World} {B e size n : Nat} {v : Value} {xs : List Value} (h : W.ownsRow B e size v n xs) (c : Chg p W W') (hp : ∀ g cur, W.heap[g]? = some (.cells cur e (0, 0)) → ¬ p g) : W'.ownsRow B e size v n xs := by
  obtain ⟨h1, h2⟩ := h
  refine ⟨h1, ?_⟩
  rcases h2 with h2 | ⟨g, cap, cur, rfl, hB, hb, h3⟩
  · exact .inl h2
  · exact .inr ⟨g, cap, cur, rfl, hB, (c.block g (Array.getElem?_eq_some_iff.1 hb).1 (hp g cur hb)).trans hb, h3⟩
theorem turn_all {w0 w w' : World} {x5 x6 i bt_ : Nat} {b g r q : Nat → Nat} {T : Nat → List Bool} {T' T0 : List Bool} {W' Wk : List Nat} {v u : Value} (h : Sx w0.heap.size w x5 x6 3 b g r q T) (hi : i < 3) (n1 : BitsIs w' (b i) (g i) T' W') (n2 : RBits w' (r i) (q i) T') (c : Chg (fun j => j = g i ∨ j = q i) w w')
    (hK : BKept w bt_ v Wk) (hv : v.ownBlock ≠ some (g i)) (hO : OwnI w w0.heap.size u (memT T0)) (hD : Below w0.heap.size w0 w) :
    Sx w0.heap.size w' x5 x6 3 b g r q (updT T i T') ∧ BKept w' bt_ v Wk ∧ OwnI w' w0.heap.size u (memT T0) ∧ Below w0.heap.size w0 w' := by
  obtain ⟨W0, o1⟩ := h.one i hi
  have o2 := h.two i hi
  have hlo := h.lo i hi
  refine ⟨h.turn hi n1 n2 c, hK.kp (c.block _ hK.cap.lt (fun e => ?_)) (fun k e => c.block _ (hK.row.lt e) (fun e2 => ?_)), own_chg hO c (fun k cur hb e => ?_), hD.trans (c.below hD.size (fun k e => by rcases e with rfl | rfl; exact hlo.1; exact hlo.2))⟩
  · rcases e with e | e
    · exact (bk_ne hK.cap o1.row (by decide)) e
    · exact (bk_ne hK.cap o2.row (by decide)) e
  · rcases e2 with rfl | rfl
    · exact hv e
    · rcases hK.row with ⟨rfl, _⟩ | ⟨k', cp, rest, rfl, hB⟩
      · cases e
      · cases e
        exact (bk_ne hB o2.row (by decide)) rfl
  · have kb : Bk w k 3 cur.toList := by unfold Bk; rw [hb]
    rcases e with e | e
    · exact (bk_ne kb o1.row (by decide)) e
    · exact (bk_ne kb o2.row (by decide)) e
theorem Tab.pos {w : World} (h : Tab w) : 0 < w.heap.size := World.block_lt_of_cell? w _ (h 0 (by decide))
set_option maxRecDepth 100000 in
set_option maxHeartbeats 4000000 in
theorem bits_walk (n0 n1 n2 : Int) (l : List Ct) (a1 : Option Addr) (cap1 : Nat) (w : World) (hT : Tab w) (hS : Sts w a1 l) (hv : ∀ x ∈ l, in64 x.2.1 ∧ in64 x.2.2.1 ∧ in64 x.2.2.2) (hl : l.length ≤ 4398046511104) :
    Calls Tryd.prog 5 #[.agg #[.int .i64 n0, .int .i64 n1, .int .i64 n2], .slice a1 l.length cap1] w fun e w' => e = .returned (.bool true) ∧ Below w.heap.size w w' := by
  obtain ⟨N, hN⟩ : ∃ N : Nat → Int, N = fun i => if i = 0 then n0 else if i = 1 then n1 else n2 := ⟨_, rfl⟩
  have kA := Bk.new w 70 [.int .i64 n0, .int .i64 n1, .int .i64 n2]
  have kB := Bk.new (w.alloc (.cells #[.int .i64 n0, .int .i64 n1, .int .i64 n2] 70)) 73 [.pointer none, .pointer none, .pointer none]
  have kC := Bk.new ((w.alloc (.cells #[.int .i64 n0, .int .i64 n1, .int .i64 n2] 70)).alloc (.cells #[.pointer none, .pointer none, .pointer none] 73)) 75 [.pointer none, .pointer none, .pointer none]
  rw [World.size_alloc] at kB
  rw [World.size_alloc, World.size_alloc] at kC
  have kA2 := (kA.alloc (.cells #[.pointer none, .pointer none, .pointer none] 73)).alloc (.cells #[.pointer none, .pointer none, .pointer none] 75)
  have kB2 := kB.alloc (.cells #[.pointer none, .pointer none, .pointer none] 75)
  have g0 := (((Gr.refl w).alloc (.cells #[.int .i64 n0, .int .i64 n1, .int .i64 n2] 70)).alloc (.cells #[.pointer none, .pointer none, .pointer none] 73)).alloc (.cells #[.pointer none, .pointer none, .pointer none] 75)
  clear kA kB
  go_enter Tryd.func5, Tryd.ntmps5
  go_upto_region 3 with fail
  generalize hW0 : World.alloc (World.alloc (World.alloc w _) _) _ = W0 at *
  obtain ⟨x2, e2, l2⟩ : ∃ b, b = w.heap.size ∧ w.heap.size ≤ b := ⟨_, rfl, Nat.le_refl _⟩
  obtain ⟨x5, e5, l5⟩ : ∃ b, b = w.heap.size + 1 ∧ w.heap.size ≤ b := ⟨_, rfl, by omega⟩
  obtain ⟨x6, e6, l6⟩ : ∃ b, b = w.heap.size + 1 + 1 ∧ w.heap.size ≤ b := ⟨_, rfl, by omega⟩
  rw [← e6, ← e5, ← e2]
  rw [← e6] at kC
  rw [← e5] at kB2
  rw [← e2] at kA2
  clear e6 e5 e2 hW0
  have HT := hid0 hT
  have HS := hid0 hS
  have HV := hid0 hv
  have HLN := hid0 hl
  have S0 : Hid (Sx w.heap.size W0 x5 x6 0 (fun _ => 0) (fun _ => 0) (fun _ => 0) (fun _ => 0) (fun _ => [])) := ⟨kB2, kC, fun i hi => absurd hi (Nat.not_lt_zero _), fun i hi => absurd hi (Nat.not_lt_zero _), fun i hi => absurd hi (Nat.not_lt_zero _), fun i j hi => absurd hi (Nat.not_lt_zero _)⟩
  have NA : Hid (∀ k, k < 3 → ∀ V, Bk V x2 70 [.int .i64 n0, .int .i64 n1, .int .i64 n2] → V.cell? ⟨x2, k, none⟩ = some (.int .i64 (N k))) := fun k hk V hV => by
    rw [hV.at, hN]
    match k, hk with
    | 0, _ => rfl
    | 1, _ => rfl
    | 2, _ => rfl
  have KA := hid0 kA2
  have D0 := hid0 g0.below
  clear hT hS hv hl kC kB2 kA2 g0 hN
  generalize hLn : l.length = LN at *
  have HL := hid0 hLn
  clear hLn
  go_wp2
  go_loopg [7] 3 (fun kx s7 wr => ∃ (k : Nat) (b g r q : Nat → Nat) (T : Nat → List Bool), s7 = .int .i64 (k : Int) ∧ k ≤ 3 ∧ kx = 3 - k ∧ Hid (Sx w.heap.size wr x5 x6 k b g r q T) ∧ Hid (Bk wr x2 70 [.int .i64 n0, .int .i64 n1, .int .i64 n2]) ∧ Hid (Below w.heap.size w wr) ∧ Hid (∀ i, i < k → memT (T i) = []))
  case atStart => exact ⟨0, _, _, _, _, _, rfl, by omega, rfl, S0, KA, D0, fun i hi => absurd hi (Nat.not_lt_zero _)⟩
  case round =>
    obtain ⟨k, b, g, r, q, T, rfl, hk, rfl, SX, KX, DX, MN⟩ := hrel
    clear S0 KA D0
    have hsz := DX.out.size
    by_cases hk3 : k < 3
    · have hk3' : (k : Int) < 3 := by omega
      have ck := NA.out k hk3 wr KX.out
      by_cases hf : 0 ≤ N k ∧ N k ≤ 65536
      · obtain ⟨n, hn⟩ : ∃ n : Nat, N k = n := ⟨(N k).toNat, by omega⟩
        have hn2 : n ≤ 65536 := by omega
        have FT := hid0 (fits_any (N k))
        rw [show (decide (0 ≤ N k) && decide (N k ≤ 65536)) = true by simp; exact hf] at FT
        rw [hn] at ck FT
        have NB := hid0 (newbits_yes n wr hn2)
        clear hf
        go_wp2_with fail
        refine NB.out.mono ?_
        rintro e w1 ⟨b', g', W', rfl, lb, lg, hB1, g1⟩
        have B1 := hid0 hB1
        have S1 := SX.out.gr g1
        have K1 := KX.out.gr g1
        have ck1 := NA.out k hk3 _ K1
        rw [hn] at ck1
        have c5 := S1.k5.at k
        have f5 := S1.k5.frozen k
        have c5' : ∃ v, w1.cell? ⟨x5, k, none⟩ = some v := by
          rw [c5]
          match k, hk3 with
          | 0, _ => exact ⟨_, rfl⟩
          | 1, _ => exact ⟨_, rfl⟩
          | 2, _ => exact ⟨_, rfl⟩
        obtain ⟨v5, c5'⟩ := c5'
        have x25 := bk_ne K1 S1.k5 (by decide)
        have K2 := K1.other (a := ⟨x5, k, none⟩) x25 (pT b')
        have ck2 := NA.out k hk3 _ K2
        rw [hn] at ck2
        have RN := hid0 (rnew_any n (w1.setCell ⟨x5, k, none⟩ (pT b')) hn2)
        have G1 := hid0 g1
        replace K2 := hid0 K2
        clear NB hB1 g1 S1 K1 c5 ck
        go_wp2_with (first | (go_at_call 7; refine (FT.out _).mono ?_; rintro e v1 ⟨rfl, hw⟩; cases hw) | fail)
        refine RN.out.mono ?_
        rintro e w3 ⟨r', q', rfl, lr, lq, hR3, g3⟩
        have S6 : Bk w3 x6 75 (cBs r k) := ((SX.out.k6.gr G1.out).other (a := ⟨x5, k, none⟩) (bk_ne (SX.out.k6.gr G1.out) (SX.out.k5.gr G1.out) (by decide)) (pT b')).gr g3
        have f6 := S6.frozen k
        have c6' : ∃ v, w3.cell? ⟨x6, k, none⟩ = some v := by
          rw [S6.at k]
          match k, hk3 with
          | 0, _ => exact ⟨_, rfl⟩
          | 1, _ => exact ⟨_, rfl⟩
          | 2, _ => exact ⟨_, rfl⟩
        obtain ⟨v6, c6'⟩ := c6'
        have SM := hid0 (SX.out.more hk3 hsz G1.out B1.out lb lg g3 hR3 lr lq)
        have KM := hid0 ((K2.out.gr g3).other (a := ⟨x6, k, none⟩) (bk_ne (K2.out.gr g3) S6 (by decide)) (pT r'))
        have DM : Hid (Below w.heap.size w (w3.setCell ⟨x6, k, none⟩ (pT r'))) := by
          have h1 : Below w.heap.size w w1 := DX.out.trans (G1.out.below.mono hsz)
          have h2 : Below w.heap.size w (w1.setCell ⟨x5, k, none⟩ (pT b')) := h1.setCell (p := ⟨x5, k, none⟩) l5 _
          have h3 : Below w.heap.size w w3 := h2.trans (g3.below.mono h2.size)
          exact h3.setCell (p := ⟨x6, k, none⟩) l6 _
        have MM : Hid (∀ i, i < k + 1 → memT (updT T k (List.replicate n false) i) = []) := fun i hi => by
          by_cases e : i = k
          · simp only [updT, if_pos e]; exact memT_nil n
          · simp only [updT, if_neg e]; exact MN.out i (by omega)
        clear RN hR3 g3 S6 B1 G1 K2 SX KX DX c5' f5 ck2 x25
        go_wp2
        go_roundg (3 - (k + 1))
        case measure => omega
        case rel => exact ⟨k + 1, _, _, _, _, _, by simp, by omega, rfl, SM, KM, DM, MM⟩
      · have FT := hid0 (fits_any (N k))
        rw [show (decide (0 ≤ N k) && decide (N k ≤ 65536)) = false by simp; omega] at FT
        have NB := hid0 (newbits_no (N k) wr (by omega))
        have LI := hid0 (lives_any wr (HT.out.below DX.out))
        clear hf
        go_wp2_with fail
        refine NB.out.mono ?_
        rintro e w1 ⟨rfl, hw⟩
        cases hw
        clear NB
        go_wp2_with (first | (go_at_call 7; refine (FT.out _).mono ?_; rintro e v1 ⟨rfl, hw⟩; cases hw) | fail)
        refine LI.out.mono ?_
        rintro e w2 ⟨rfl, hB⟩
        have HB := hid0 (DX.out.trans (hB.mono hsz))
        clear hB LI SX KX DX
        go_wp2
        go_ret
        exact ⟨rfl, HB.out⟩
    · have hk3' : ¬ (k : Int) < 3 := by omega
      obtain rfl : k = 3 := by omega
      have k5 := SX.out.k5
      have c50 : wr.cell? ⟨x5, 0, none⟩ = some (pT (b 0)) := k5.at 0
      obtain ⟨W00, hB0⟩ := SX.out.one 0 (by omega)
      have RP0 := hid0 hB0.rep
      have AL := hid0 (ball_any hB0)
      clear k5 hB0 KX
      go_wp2_with fail
      refine AL.out.mono ?_
      rintro e w1 ⟨bt0, v0, rfl, hK1, hb1, hv1, B1⟩
      have K1 := hid0 hK1
      have S1 := hid0 (SX.out.below B1)
      have D1 := hid0 (DX.out.trans (B1.mono DX.out.size))
      have NV1 : Hid (∀ j, j < 3 → v0.ownBlock ≠ some (g j)) := fun j hj e => by
        have h1 := hv1 (g j) e
        obtain ⟨W, hW⟩ := SX.out.one j hj
        have := hW.row.lt
        omega
      have O1 : Hid (OwnI w1 w.heap.size (.slice none 0 0) (memT (T 0))) := by
        rw [MN.out 0 (by omega)]
        exact World.ownsRow_nil _ _ _ _
      clear AL hK1 hb1 hv1 B1 SX DX MN c50
      go_wp2
      go_loopg [10, 11, 12] LN (fun kx s10 s11 s12 wr => ∃ (i : Nat) (T : Nat → List Bool) (bt_ : Nat) (v : Value) (Wk : List Nat) (T0 : List Bool), s10 = .func (.func 52) #[] #[pT bt_] ∧ s12 = .int .i64 (i : Int) ∧ i ≤ LN ∧ kx = LN - i ∧ Hid (Sx w.heap.size wr x5 x6 3 b g r q T) ∧ Hid (BKept wr bt_ v Wk) ∧ Hid (Rep T0 Wk) ∧ Hid (∀ j, j < 3 → v.ownBlock ≠ some (g j)) ∧ Hid (OwnI wr w.heap.size s11 (memT T0)) ∧ Hid (Below w.heap.size w wr))
      case atStart => exact ⟨0, T, bt0, v0, W00, T 0, rfl, rfl, Nat.zero_le _, rfl, S1, K1, RP0, NV1, O1, D1⟩
      case round =>
        clear S1 K1 RP0 NV1 O1 D1
        obtain ⟨i, T, bt_, v, Wk, T0, rfl, rfl, hi, rfl, SX, KP, RP, NV, OW, DX⟩ := hrel
        by_cases hlt : i < LN
        · have hlt' : (i : Int) < (LN : Int) := by omega
          obtain ⟨x, hx⟩ : ∃ x, l[i]? = some x := ⟨_, List.getElem?_eq_getElem (by rw [HL.out]; exact hlt)⟩
          have HX := hid0 hx
          clear hx
          have hln2 := HLN.out
          by_cases hh : i = LN / 2
          · have hh' : ((i : Int) == (LN : Int) / 2) = true := by simp; omega
            have HH := hid0 hh
            clear hh
            have c50 : wr.cell? ⟨x5, 0, none⟩ = some (pT (b 0)) := SX.out.k5.at 0
            obtain ⟨W00, hB0⟩ := SX.out.one 0 (by omega)
            have R4 := hid0 hB0.rep
            have hm := hB0.most
            have AL := hid0 (ball_any hB0)
            clear hB0
            go_wp2_with fail
            refine AL.out.mono ?_
            rintro e w3 ⟨bt1, v1, rfl, hK1, hb1, hv1, B1⟩
            have K3 := hid0 hK1
            have S3 := hid0 (SX.out.below B1)
            have D3 := hid0 (DX.out.trans (B1.mono DX.out.size))
            have NV4 : Hid (∀ j, j < 3 → v1.ownBlock ≠ some (g j)) := fun j hj e => by
              have h1 := hv1 (g j) e
              obtain ⟨W, hW⟩ := SX.out.one j hj
              have := hW.row.lt
              omega
            have c60 : w3.cell? ⟨x6, 0, none⟩ = some (pT (r 0)) := S3.out.k6.at 0
            have RA := hid0 (rall_any (S3.out.two 0 (by omega)) hm)
            clear AL hK1 hb1 hv1 B1 SX DX c50 KP RP NV OW
            go_wp2_with fail
            refine RA.out.mono ?_
            rintro e w4 ⟨uw, rfl, hO, B4⟩
            have O4 : Hid (OwnI w4 w.heap.size uw (memT (T 0))) := own_mono hO D3.out.size
            have S4 := hid0 (S3.out.below B4)
            have K4 := hid0 (K3.out.below B4)
            have D4 := hid0 (D3.out.trans (B4.mono D3.out.size))
            obtain ⟨au, cu, eu, -⟩ := OwnI.is O4.out
            clear RA hO B4 S3 K3 D3 c60 hm
            subst eu
            obtain ⟨uw, huw⟩ : ∃ u, u = (Value.slice au (memT (T 0)).length cu) := ⟨_, rfl⟩
            rw [← huw] at O4 ⊢
            clear huw
            have hx := HX.out
            obtain ⟨bs, off, hab, s0, s1, s2, s3⟩ := (HS.out.below D4.out) i x hx
            have hvx := HV.out x (List.mem_of_getElem? hx)
            subst hab
            go_wp2_with fail
            refine (three_any x.2.1 hvx.1 _).mono ?_
            rintro e v ⟨o, ho, rfl, hw⟩
            cases hw
            go_wp2_with fail
            refine (three_any x.2.2.1 hvx.2.1 _).mono ?_
            rintro e v ⟨p, hp, rfl, hw⟩
            cases hw
            have y1 := fun m => below_cell ((S4.out.k5.at o).trans (cBs_at b o ho)) ((Gr.refl w4).drewN m).below
            have y2 := fun m => below_cell ((S4.out.k5.at p).trans (cBs_at b p hp)) ((Gr.refl w4).drewN m).below
            have y3 := fun m => below_cell ((S4.out.k6.at o).trans (cBs_at r o ho)) ((Gr.refl w4).drewN m).below
            have y4 := fun m => below_cell ((S4.out.k6.at p).trans (cBs_at r p hp)) ((Gr.refl w4).drewN m).below
            have t0 := fun m => below_cell s0 ((Gr.refl w4).drewN m).below
            have t1 := fun m => below_cell s1 ((Gr.refl w4).drewN m).below
            have t2 := fun m => below_cell s2 ((Gr.refl w4).drewN m).below
            have t3 := fun m => below_cell s3 ((Gr.refl w4).drewN m).below
            have ho' : (o : Int) < 3 := by omega
            have hp' : (p : Int) < 3 := by omega
            have BT : Hid (∀ m, Calls Tryd.prog 25 #[pT (b o), pT (b p), pT (r o), pT (r p), sV x.1 x.2.1 x.2.2.1 x.2.2.2] (w4.drewN m) (BitR (b o) (g o) (r o) (q o) (w4.drewN m))) := fun m => by
              have gm := (Gr.refl w4).drewN m
              obtain ⟨W1, h1⟩ := (S4.out.gr gm).one o ho
              obtain ⟨W2, h2⟩ := (S4.out.gr gm).one p hp
              exact bit_any h1 ((S4.out.gr gm).two o ho) h2 ((S4.out.gr gm).two p hp) ((HT.out.below D4.out).gr gm) _ _ _ _ hvx.2.2
            have ST : Hid (∀ m w5 T' W', BitsIs w5 (b o) (g o) T' W' → RBits w5 (r o) (q o) T' → Chg (fun k => k = g o ∨ k = q o) (w4.drewN m) w5 → Sx w.heap.size w5 x5 x6 3 b g r q (updT T o T') ∧ BKept w5 bt1 v1 W00 ∧ OwnI w5 w.heap.size uw (memT (T 0)) ∧ Below w.heap.size w w5) := fun m w5 T' W' h1 h2 hc => by
              have gm := (Gr.refl w4).drewN m
              exact turn_all (S4.out.gr gm) ho h1 h2 hc (K4.out.gr gm) (NV4.out o ho) (own_below O4.out gm.below) (D4.out.trans (gm.below.mono D4.out.size))
            go_upto_region 23 with fail
            clear s0 s1 s2 s3 hvx S4 K4 O4 D4 hx
            obtain ⟨d, on, wi, nn⟩ := x
            dsimp only at t0 t1 t2 t3 BT
            obtain ⟨nF, hnF⟩ : ∃ nF : Nat, 5 ≤ nF := ⟨5, by omega⟩
            refine (wpIn_wide (n := nF)).1 ?_
            refine region_head_lit 16 (by kernel_rfl) (by kernel_rfl) (by simp) (by kernel_rfl) ?_
            simp only [List.take_succ_cons, List.take_zero, List.drop_succ_cons, List.drop_zero]
            repeat (gi_big_quiet_step (fail))
            refine wpQuietIn_nil ?_
            intro _ hw'
            obtain ⟨z, rfl⟩ := hw'
            gi_wp2_with fail
            refine ⟨fun _ => by omega, (callsIn_wide.2 (BT.out z)).mono ?_⟩
            rintro e w5 ⟨rfl, ⟨T', W', h1, h2⟩, h3⟩
            obtain ⟨q1, q2, q3, q4⟩ := ST.out z w5 T' W' h1 h2 h3
            have Q1 := hid0 q1
            have Q2 := hid0 q2
            have Q3 := hid0 q3
            have Q4 := hid0 q4
            clear q1 q2 q3 q4 h1 h2 h3 BT ST y1 y2 y3 y4 t0 t1 t2 t3
            gi_wp2
            go_wp2
            go_roundg (LN - (i + 1))
            case measure => omega
            case rel => exact ⟨i + 1, _, bt1, v1, W00, (T 0), by simp, by simp, by omega, rfl, Q1, Q2, R4, NV4, Q3, Q4⟩
          · have hh' : ((i : Int) == (LN : Int) / 2) = false := by simp; omega
            have HH := hid0 hh
            clear hh
            have hx := HX.out
            obtain ⟨bs, off, hab, s0, s1, s2, s3⟩ := (HS.out.below DX.out) i x hx
            have hvx := HV.out x (List.mem_of_getElem? hx)
            subst hab
            go_wp2_with fail
            refine (three_any x.2.1 hvx.1 _).mono ?_
            rintro e v ⟨o, ho, rfl, hw⟩
            cases hw
            go_wp2_with fail
            refine (three_any x.2.2.1 hvx.2.1 _).mono ?_
            rintro e v ⟨p, hp, rfl, hw⟩
            cases hw
            have y1 := fun m => below_cell ((SX.out.k5.at o).trans (cBs_at b o ho)) ((Gr.refl wr).drewN m).below
            have y2 := fun m => below_cell ((SX.out.k5.at p).trans (cBs_at b p hp)) ((Gr.refl wr).drewN m).below
            have y3 := fun m => below_cell ((SX.out.k6.at o).trans (cBs_at r o ho)) ((Gr.refl wr).drewN m).below
            have y4 := fun m => below_cell ((SX.out.k6.at p).trans (cBs_at r p hp)) ((Gr.refl wr).drewN m).below
            have t0 := fun m => below_cell s0 ((Gr.refl wr).drewN m).below
            have t1 := fun m => below_cell s1 ((Gr.refl wr).drewN m).below
            have t2 := fun m => below_cell s2 ((Gr.refl wr).drewN m).below
            have t3 := fun m => below_cell s3 ((Gr.refl wr).drewN m).below
            have ho' : (o : Int) < 3 := by omega
            have hp' : (p : Int) < 3 := by omega
            have BT : Hid (∀ m, Calls Tryd.prog 25 #[pT (b o), pT (b p), pT (r o), pT (r p), sV x.1 x.2.1 x.2.2.1 x.2.2.2] (wr.drewN m) (BitR (b o) (g o) (r o) (q o) (wr.drewN m))) := fun m => by
              have gm := (Gr.refl wr).drewN m
              obtain ⟨W1, h1⟩ := (SX.out.gr gm).one o ho
              obtain ⟨W2, h2⟩ := (SX.out.gr gm).one p hp
              exact bit_any h1 ((SX.out.gr gm).two o ho) h2 ((SX.out.gr gm).two p hp) ((HT.out.below DX.out).gr gm) _ _ _ _ hvx.2.2
            have ST : Hid (∀ m w5 T' W', BitsIs w5 (b o) (g o) T' W' → RBits w5 (r o) (q o) T' → Chg (fun k => k = g o ∨ k = q o) (wr.drewN m) w5 → Sx w.heap.size w5 x5 x6 3 b g r q (updT T o T') ∧ BKept w5 bt_ v Wk ∧ OwnI w5 w.heap.size u11 (memT T0) ∧ Below w.heap.size w w5) := fun m w5 T' W' h1 h2 hc => by
              have gm := (Gr.refl wr).drewN m
              exact turn_all (SX.out.gr gm) ho h1 h2 hc (KP.out.gr gm) (NV.out o ho) (own_below OW.out gm.below) (DX.out.trans (gm.below.mono DX.out.size))
            go_upto_region 23 with fail
            clear s0 s1 s2 s3 hvx SX KP OW DX hx
            obtain ⟨d, on, wi, nn⟩ := x
            dsimp only at t0 t1 t2 t3 BT
            obtain ⟨nF, hnF⟩ : ∃ nF : Nat, 5 ≤ nF := ⟨5, by omega⟩
            refine (wpIn_wide (n := nF)).1 ?_
            refine region_head_lit 16 (by kernel_rfl) (by kernel_rfl) (by simp) (by kernel_rfl) ?_
            simp only [List.take_succ_cons, List.take_zero, List.drop_succ_cons, List.drop_zero]
            repeat (gi_big_quiet_step (fail))
            refine wpQuietIn_nil ?_
            intro _ hw'
            obtain ⟨z, rfl⟩ := hw'
            gi_wp2_with fail
            refine ⟨fun _ => by omega, (callsIn_wide.2 (BT.out z)).mono ?_⟩
            rintro e w5 ⟨rfl, ⟨T', W', h1, h2⟩, h3⟩
            obtain ⟨q1, q2, q3, q4⟩ := ST.out z w5 T' W' h1 h2 h3
            have Q1 := hid0 q1
            have Q2 := hid0 q2
            have Q3 := hid0 q3
            have Q4 := hid0 q4
            clear q1 q2 q3 q4 h1 h2 h3 BT ST y1 y2 y3 y4 t0 t1 t2 t3
            gi_wp2
            go_wp2
            go_roundg (LN - (i + 1))
            case measure => omega
            case rel => exact ⟨i + 1, _, bt_, v, Wk, T0, by simp, by simp, by omega, rfl, Q1, Q2, RP, NV, Q3, Q4⟩
        · have hge : ¬ (i : Int) < (LN : Int) := by omega
          obtain rfl : i = LN := by omega
          go_wp2
          go_loopg [15] 3 (fun kx s15 wr => ∃ (k : Nat) (T : Nat → List Bool), s15 = .int .i64 (k : Int) ∧ k ≤ 3 ∧ kx = 3 - k ∧ Hid (Sx w.heap.size wr x5 x6 3 b g r q T) ∧ Hid (BKept wr bt_ v Wk) ∧ Hid (OwnI wr w.heap.size u11 (memT T0)) ∧ Hid (Below w.heap.size w wr))
          case atStart => exact ⟨0, T, rfl, by omega, rfl, SX, KP, OW, DX⟩
          case round =>
            clear SX KP OW DX
            obtain ⟨k, T, rfl, hk, rfl, SX, KP, OW, DX⟩ := hrel
            by_cases hk3 : k < 3
            · have hk3' : (k : Int) < 3 := by omega
              have y1 := fun m => below_cell ((SX.out.k5.at k).trans (cBs_at b k hk3)) ((Gr.refl wr).drewN m).below
              have y3 := fun m => below_cell ((SX.out.k6.at k).trans (cBs_at r k hk3)) ((Gr.refl wr).drewN m).below
              have BT : Hid (∀ m, Calls Tryd.prog 25 #[pT (b k), pT (b k), pT (r k), pT (r k), sV 9 0 0 0] (wr.drewN m) (BitR (b k) (g k) (r k) (q k) (wr.drewN m))) := fun m => by
                have gm := (Gr.refl wr).drewN m
                obtain ⟨W1, h1⟩ := (SX.out.gr gm).one k hk3
                exact bit_any h1 ((SX.out.gr gm).two k hk3) h1 ((SX.out.gr gm).two k hk3) ((HT.out.below DX.out).gr gm) _ _ _ _ (by unfold in64; omega)
              have ST : Hid (∀ m w5 T' W', BitsIs w5 (b k) (g k) T' W' → RBits w5 (r k) (q k) T' → Chg (fun j => j = g k ∨ j = q k) (wr.drewN m) w5 → Sx w.heap.size w5 x5 x6 3 b g r q (updT T k T') ∧ BKept w5 bt_ v Wk ∧ OwnI w5 w.heap.size u11 (memT T0) ∧ Below w.heap.size w w5) := fun m w5 T' W' h1 h2 hc => by
                have gm := (Gr.refl wr).drewN m
                exact turn_all (SX.out.gr gm) hk3 h1 h2 hc (KP.out.gr gm) (NV.out k hk3) (own_below OW.out gm.below) (DX.out.trans (gm.below.mono DX.out.size))
              clear SX KP OW DX
              go_upto_region 28 with fail
              obtain ⟨nF, hnF⟩ : ∃ nF : Nat, 5 ≤ nF := ⟨5, by omega⟩
              refine (wpIn_wide (n := nF)).1 ?_
              refine region_head_lit 13 (by kernel_rfl) (by kernel_rfl) (by simp) (by kernel_rfl) ?_
              simp only [List.take_succ_cons, List.take_zero, List.drop_succ_cons, List.drop_zero]
              repeat (gi_big_quiet_step (fail))
              refine wpQuietIn_nil ?_
              intro _ hw'
              obtain ⟨z, rfl⟩ := hw'
              gi_wp2_with fail
              refine ⟨fun _ => by omega, (callsIn_wide.2 (BT.out z)).mono ?_⟩
              rintro e w5 ⟨rfl, ⟨T', W', h1, h2⟩, h3⟩
              obtain ⟨q1, q2, q3, q4⟩ := ST.out z w5 T' W' h1 h2 h3
              have Q1 := hid0 q1
              have Q2 := hid0 q2
              have Q3 := hid0 q3
              have Q4 := hid0 q4
              clear q1 q2 q3 q4 h1 h2 h3 BT ST y1 y3
              gi_wp2
              go_wp2
              go_roundg (3 - (k + 1))
              case measure => omega
              case rel => exact ⟨k + 1, _, by simp, by omega, rfl, Q1, Q2, Q3, Q4⟩
            · have hk3' : ¬ (k : Int) < 3 := by omega
              obtain rfl : k = 3 := by omega
              have gz := (Gr.refl wr).alloc (.cells #[.bool false, .int .i64 0, .slice none 0 0] 90)
              have kz : Bk (wr.alloc (.cells #[.bool false, .int .i64 0, .slice none 0 0] 90)) wr.heap.size 90 [.bool false, .int .i64 0, .slice none 0 0] := Bk.new wr 90 _
              have SZ := hid0 (SX.out.gr gz)
              have KZ := hid0 (KP.out.gr gz)
              have OZ : Hid (OwnI (wr.alloc (.cells #[.bool false, .int .i64 0, .slice none 0 0] 90)) w.heap.size u11 (memT T0)) := own_below OW.out gz.below
              have DZ := hid0 (DX.out.trans (gz.below.mono DX.out.size))
              clear SX KP OW DX gz
              go_upto_region 32 with fail
              generalize wr.heap.size = zb at *
              generalize wr.alloc _ = wz at *
              have NZ : Hid (NoBits wz (pT zb)) := .inr ⟨zb, _, _, rfl, kz⟩
              have NN : Hid (NoBits wz (.pointer none)) := .inl rfl
              have c50 : wz.cell? ⟨x5, 0, none⟩ = some (pT (b 0)) := SZ.out.k5.at 0
              obtain ⟨W0b, hB0⟩ := SZ.out.one 0 (by omega)
              have m0 := hB0.c0
              have E1 := hid0 (bjoin_nil (w := wz) (pT (b 0)) (.pointer none) (.inr ⟨⟨b 0, rfl, m0⟩, NN.out⟩))
              have E2 := hid0 (bmeet_nil (w := wz) (.pointer none) (pT (b 0)) (.inl NN.out))
              have E3 := hid0 (bcut_nil (w := wz) (pT zb) (pT (b 0)) (.inl NZ.out))
              have E4 := hid0 (bcut_nil (w := wz) (pT (b 0)) (pT zb) (.inr ⟨⟨b 0, rfl, m0⟩, NZ.out⟩))
              have E5 := hid0 (add_nil (w := wz) (.pointer none) 0 NN.out)
              have E6 := hid0 (add_nil (w := wz) (pT zb) 0 NZ.out)
              have E7 := hid0 (count_nil (.pointer none) wz NN.out)
              have E8 := hid0 (least_nil (w := wz) (.pointer none) 0 NN.out)
              have E9 := hid0 (free_nil (w := wz) (pT zb) 5 NZ.out)
              have EA := hid0 (ball_nil (.pointer none) wz NN.out)
              have TZ := hid0 (HT.out.below DZ.out)
              clear hB0 m0 kz NZ NN SZ
              go_wp2_with fail
              refine E1.out.mono ?_
              rintro e v1 ⟨rfl, hw⟩
              cases hw
              go_wp2_with fail
              refine E2.out.mono ?_
              rintro e v1 ⟨rfl, hw⟩
              cases hw
              go_wp2_with fail
              refine E3.out.mono ?_
              rintro e v1 ⟨rfl, hw⟩
              cases hw
              go_wp2_with fail
              refine E4.out.mono ?_
              rintro e v1 ⟨rfl, hw⟩
              cases hw
              go_wp2_with fail
              refine E5.out.mono ?_
              rintro e v1 ⟨rfl, hw⟩
              cases hw
              go_wp2_with fail
              refine E6.out.mono ?_
              rintro e v1 ⟨rfl, hw⟩
              cases hw
              go_wp2_with fail
              refine E7.out.mono ?_
              rintro e v1 ⟨rfl, hw⟩
              cases hw
              go_wp2_with fail
              refine E8.out.mono ?_
              rintro e v1 ⟨rfl, hw⟩
              cases hw
              go_wp2_with fail
              refine E9.out.mono ?_
              rintro e v1 ⟨rfl, hw⟩
              cases hw
              go_wp2_with fail
              refine EA.out.mono ?_
              rintro e w6 ⟨bt2, v2, rfl, hK2, -, -, B2⟩
              have NB := hid0 (numbers_any bt2 v2 [] 0 w6 hK2 (TZ.out.belowS B2))
              have K6 := hid0 (KZ.out.below B2)
              have O6 : Hid (OwnI w6 w.heap.size u11 (memT T0)) := own_below OZ.out B2
              have D6 := hid0 (DZ.out.trans (B2.mono DZ.out.size))
              rw [show leftLN 0 (memR (bt ([] : List Nat)) 0 (64 * ([] : List Nat).length)) = [] from rfl] at NB
              clear E1 E2 E3 E4 E5 E6 E7 E8 E9 EA hK2 B2 KZ OZ DZ TZ c50
              go_wp2_with fail
              refine NB.out.mono ?_
              rintro e w7 ⟨u7, rfl, hO7, B7⟩
              obtain ⟨a7, cp7, rfl, -⟩ := OwnI.is hO7
              simp only [List.length_nil]
              have K7 := hid0 (K6.out.below B7)
              have O7 : Hid (OwnI w7 w.heap.size u11 (memT T0)) := own_below O6.out B7
              have D7 := hid0 (D6.out.trans (B7.mono D6.out.size))
              have N8 := hid0 (numbers_w bt_ v Wk T0 0 w7 K7.out (HT.out.below D7.out) RP.out)
              rw [leftLN_zero] at N8
              obtain ⟨a11, cp11, rfl, I11⟩ := OwnI.is O7.out
              have hmm : (memT T0).length ≤ 1000000 := by
                have h1 := K7.out.few
                have h2 := memR_len (p := bt Wk) (a := 0) (n := 64 * Wk.length)
                rw [RP.out.mem] at h2
                omega
              have II := hid0 I11
              clear NB hO7 B7 K6 O6 D6 O7 I11 RP NV K7
              generalize memT T0 = M at *
              go_wp2_with fail
              refine N8.out.mono ?_
              rintro e w8 ⟨a8, cp8, rfl, I8, B8⟩
              have D8 := hid0 (D7.out.trans (B8.mono D7.out.size))
              have SM := hid0 (same_ints a8 a11 cp8 cp11 M w8 I8 (II.out.below B8) hmm)
              clear N8 I8 B8 II D7
              go_wp2_with fail
              refine SM.out.mono ?_
              rintro e w9 ⟨rfl, g9⟩
              have D9 := hid0 (D8.out.trans (g9.below.mono D8.out.size))
              have LI := hid0 (lives_any w9 (HT.out.below D9.out))
              clear SM g9 D8
              go_wp2_with fail
              refine LI.out.mono ?_
              rintro e wE ⟨rfl, BE⟩
              have DE := hid0 (D9.out.trans (BE.mono D9.out.size))
              clear LI BE D9
              go_wp2
              go_ret
              exact ⟨rfl, DE.out⟩
end Go.Proofs.YtjnjpjpgokdciaaDoor
