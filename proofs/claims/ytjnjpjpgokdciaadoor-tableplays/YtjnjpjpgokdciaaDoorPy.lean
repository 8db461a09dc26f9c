/- TablePlays' walk. -/
import Derived.Test.YtjnjpjpgokdciaaDoorTy
import Derived.Deep.CutBlock
set_option linter.unusedSimpArgs false
set_option linter.unusedVariables false
namespace Go.Proofs.YtjnjpjpgokdciaaDoor
open Go.RowKit Go.Sort Go.Shelf
attribute [local go_sem] Oper.semAt_some wide_fn
attribute [local simp] wide_fn

/-- A step: what, on the other one, with which number, with which value, all. -/
structure Stp where
  d : Int
  o : Bool
  id : Int
  n : Int
  a : Bool
def Stps (w : World) (ao : Option Addr) (l : List Stp) : Prop := ∀ (k : Nat) (x : Stp), l[k]? = some x → ∃ b off, ao = some ⟨b, off, none⟩ ∧ w.cell? ⟨b, off + k * 5, none⟩ = some (.int .i64 x.d) ∧ w.cell? ⟨b, off + k * 5 + 1, none⟩ = some (.bool x.o) ∧ w.cell? ⟨b, off + k * 5 + 2, none⟩ = some (.int .u32 x.id) ∧ w.cell? ⟨b, off + k * 5 + 3, none⟩ = some (.int .i64 x.n) ∧ w.cell? ⟨b, off + k * 5 + 4, none⟩ = some (.bool x.a)
theorem Stps.below {w w' : World} {ao : Option Addr} {l : List Stp} (h : Stps w ao l) (g : Below w.heap.size w w') : Stps w' ao l := fun k x hx => by
  obtain ⟨b, off, e, h0, h1, h2, h3, h4⟩ := h k x hx
  exact ⟨b, off, e, below_cell h0 g, below_cell h1 g, below_cell h2 g, below_cell h3 g, below_cell h4 g⟩
theorem info47 : (Tryd.prog.info? 47).map (fun i => (i.zero, i.size, i.bytes)) = some (some (.agg #[.nilFunc, .slice none 0 0]), 2, 32) := by kernel_rfl
/-- append as one step of a region that draws, into a row of the call's own. -/
theorem step_append_own {P : Program} {ops : Array Oper} {o : Oper} {a : Act} {w : World} {K : Act → World → Prop} {Q : Exit → Act → World → Prop} {E : Prop}
    (hg : o.guard = none) (s x : Operand) (t : TypeId) (hop : o.op = Op.call { callee := Callee.builtin Builtin.append, args := #[s, x], argTypes := #[t, t] })
    (base : Nat) (e : TypeId) (i : TypeInfo) (z : Value) (size bytes : Nat) (ht : P.underlying t = some (.slice e)) (hi : P.info? e = some i) (hz : i.zero = some z)
    (hsize : i.size = size) (hby : i.bytes = bytes) (hzs : z.cells.size = size) (hsz : 0 < size)
    (v : Value) (n : Nat) (xs : List Value) (hs : a.eval s = v) (hown : w.ownsRow base e size v n xs)
    (ad : Addr) (m c : Nat) (news : List Value) (hx : a.eval x = .slice (some ad) m c) (hl : news.length = m * size) (hnews : ∀ j u, news[j]? = some u → w.cell? (ad.add j) = some u) (h1 : ∀ u ∈ news, u.oneCell' = true)
    (h63 : n + m ≤ maxLen) (hbytes : (n + m) * bytes ≤ 140737488355328) (hbase : base ≤ w.heap.size)
    (hK : ∀ v' w', w'.ownsRow base e size v' (n + m) (xs ++ news) → w.grownBy w' v.ownBlock → K (a.put o.dst v') w') : if Region.wanted o (yielded ops a.tmps) = true then Oper.wp P o a w K Q else E := by
  have hw : Region.wanted o (yielded ops a.tmps) = true := by simp [Region.wanted, hg]
  rw [if_pos hw]
  obtain ⟨v', w', hr, h2, h3, h4, h5⟩ := run_append_own_at (P := P) w base t o.type e i z size bytes ht hi hz hsize hby hzs hsz v n xs hown ad m c news hl hnews h1 h63 hbytes hbase
  unfold Oper.wp
  simp [execOp, hop, resolve, invoke, builtin, hs, hx, hr, Result.andThen]
  exact hK v' w' h2 h3
theorem two_new (w : World) (x0 x1 : Value) (t : TypeId) (W : World) (e : W = w.alloc (.cells #[x0, x1] t)) : ∀ (j : Nat) (u : Value), [x0, x1][j]? = some u → W.cell? ((⟨w.heap.size, 0, none⟩ : Addr).add j) = some u := by
  subst e
  exact two_newN w x0 x1 t
theorem kC_at : ∀ {l : List Ke} {k : Nat} {x : Ke}, l[k]? = some x → (l.flatMap kC)[k * 2]? = some (.func (.func 39) #[] #[pT x.bt]) ∧ (l.flatMap kC)[k * 2 + 1]? = some x.u
  | [], k, x, h => by simp at h
  | y :: l, 0, x, h => by simp at h; subst h; exact ⟨rfl, rfl⟩
  | y :: l, k + 1, x, h => by
    have := kC_at (l := l) (k := k) (x := x) (by simpa using h)
    rw [show (k + 1) * 2 = k * 2 + 1 + 1 by omega]
    exact this
set_option maxRecDepth 100000 in
set_option maxHeartbeats 8000000 in
theorem plays_walk (n0 n1 : Int) (l : List Stp) (a1 : Option Addr) (cap1 : Nat) (w : World) (hT : Tab w) (hS : Stps w a1 l) (hl : l.length ≤ 4398046511104) :
    Calls Tryd.prog 3 #[.agg #[.int .i64 n0, .int .i64 n1], .slice a1 l.length cap1] w fun e w' => e = .returned (.bool true) ∧ Below w.heap.size w w' := by
  obtain ⟨i0, hi0, hz0, hz1, hz2⟩ := info_parts info47
  obtain ⟨N, hN⟩ : ∃ N : Nat → Int, N = fun i => if i = 0 then n0 else n1 := ⟨_, rfl⟩
  have kA := Bk.new w 22 [.int .i64 n0, .int .i64 n1]
  have kB := Bk.new (w.alloc (.cells #[.int .i64 n0, .int .i64 n1] 22)) 25 [.pointer none, .pointer none]
  have kC := Bk.new ((w.alloc (.cells #[.int .i64 n0, .int .i64 n1] 22)).alloc (.cells #[.pointer none, .pointer none] 25)) 27 [.pointer none, .pointer none]
  rw [World.size_alloc] at kB
  rw [World.size_alloc, World.size_alloc] at kC
  have kA2 := (kA.alloc (.cells #[.pointer none, .pointer none] 25)).alloc (.cells #[.pointer none, .pointer none] 27)
  have kB2 := kB.alloc (.cells #[.pointer none, .pointer none] 27)
  have g0 := (((Gr.refl w).alloc (.cells #[.int .i64 n0, .int .i64 n1] 22)).alloc (.cells #[.pointer none, .pointer none] 25)).alloc (.cells #[.pointer none, .pointer none] 27)
  clear kA kB
  go_enter Tryd.func3, Tryd.ntmps3
  go_upto_region 3 with fail
  generalize hW0 : World.alloc (World.alloc (World.alloc w _) _) _ = W0 at *
  obtain ⟨x2, e2, l2⟩ : ∃ b, b = w.heap.size ∧ w.heap.size ≤ b := ⟨_, rfl, Nat.le_refl _⟩
  obtain ⟨x5, e5, l5⟩ : ∃ b, b = w.heap.size + 1 ∧ w.heap.size ≤ b := ⟨_, rfl, by omega⟩
  obtain ⟨x6, e6, l6⟩ : ∃ b, b = w.heap.size + 1 + 1 ∧ w.heap.size ≤ b := ⟨_, rfl, by omega⟩
  rw [← e6, ← e5, ← e2]
  rw [← e6] at kC
  rw [← e5] at kB2
  rw [← e2] at kA2
  clear e6 e5 e2 hW0
  have HT := hid0 hT
  have HS := hid0 hS
  have HLN := hid0 hl
  have S0 : Hid (Ty w.heap.size W0 x5 x6 0 (fun _ => ⟨0, 0, 0, .slice none 0 0, .slice none 0 0, []⟩)) := ⟨kB2, kC, fun i hi => absurd hi (Nat.not_lt_zero _), fun i j hi => absurd hi (Nat.not_lt_zero _)⟩
  have NA : Hid (∀ k, k < 2 → ∀ V, Bk V x2 22 [.int .i64 n0, .int .i64 n1] → V.cell? ⟨x2, k, none⟩ = some (.int .i64 (N k))) := fun k hk V hV => by
    rw [hV.at, hN]
    match k, hk with
    | 0, _ => rfl
    | 1, _ => rfl
  have KA := hid0 kA2
  have D0 := hid0 g0.below
  clear hT hS hl kC kB2 kA2 g0 hN
  generalize hLn : l.length = LN at *
  have HL := hid0 hLn
  clear hLn
  go_wp2
  go_loopg [7] 2 (fun kx s7 wr => ∃ (k : Nat) (f : Nat → Sd), s7 = .int .i64 (k : Int) ∧ k ≤ 2 ∧ kx = 2 - k ∧ Hid (Ty w.heap.size wr x5 x6 k f) ∧ Hid (Bk wr x2 22 [.int .i64 n0, .int .i64 n1]) ∧ Hid (Below w.heap.size w wr))
  case atStart => exact ⟨0, _, rfl, by omega, rfl, S0, KA, D0⟩
  case round =>
    obtain ⟨k, f, rfl, hk, rfl, SX, KX, DX⟩ := hrel
    clear S0 KA D0
    have hsz := DX.out.size
    by_cases hk3 : k < 2
    · have hk3' : (k : Int) < 2 := by omega
      have ck := NA.out k hk3 wr KX.out
      by_cases hf : 0 ≤ N k ∧ N k ≤ 65536
      · obtain ⟨n, hn⟩ : ∃ n : Nat, N k = n := ⟨(N k).toNat, by omega⟩
        have hn2 : n ≤ 65536 := by omega
        have FT := hid0 (fits_any (N k))
        rw [show (decide (0 ≤ N k) && decide (N k ≤ 65536)) = true by simp; exact hf] at FT
        rw [hn] at ck FT
        have NB := hid0 (new_yes n wr hn2)
        clear hf
        go_wp2_with fail
        refine NB.out.mono ?_
        rintro e w1 ⟨t', rfl, hT1, g1⟩
        have T1 := hid0 hT1
        have S1 := SX.out.gr g1
        have K1 := KX.out.gr g1
        have ck1 := NA.out k hk3 _ K1
        rw [hn] at ck1
        have c5 := S1.k5.at k
        have f5 := S1.k5.frozen k
        have c5' : ∃ v, w1.cell? ⟨x5, k, none⟩ = some v := by
          rw [c5]
          match k, hk3 with
          | 0, _ => exact ⟨_, rfl⟩
          | 1, _ => exact ⟨_, rfl⟩
        obtain ⟨v5, c5'⟩ := c5'
        have x25 := bk_ne K1 S1.k5 (by decide)
        have K2 := K1.other (a := ⟨x5, k, none⟩) x25 (pT t')
        have ck2 := NA.out k hk3 _ K2
        rw [hn] at ck2
        have S62 := S1.k6.other (a := ⟨x5, k, none⟩) (bk_ne S1.k6 S1.k5 (by decide)) (pT t')
        have G1 := hid0 g1
        replace K2 := hid0 K2
        have SM := hid0 (SX.out.more hk3 hsz g1 hT1)
        have hsw : (w1.setCell ⟨x5, k, none⟩ (pT t')).heap.size = w1.heap.size := by simp
        clear NB hT1 g1 S1 K1 c5 ck
        go_upto_region 12 with (first | (go_at_call 7; refine (FT.out _).mono ?_; rintro e v1 ⟨rfl, hw⟩; cases hw) | fail)
        have h2 : Below w.heap.size w (w1.setCell ⟨x5, k, none⟩ (pT t')) := (DX.out.trans (G1.out.below.mono hsz)).setCell (p := ⟨x5, k, none⟩) l5 _
        have D2 := hid0 h2
        obtain ⟨w2, e2⟩ : ∃ w2, w2 = w1.setCell ⟨x5, k, none⟩ (pT t') := ⟨_, rfl⟩
        obtain ⟨zz, ez⟩ : ∃ zz, zz = w1.heap.size := ⟨_, rfl⟩
        rw [← e2, ← ez] at SM
        rw [← e2] at K2 ck2 S62 D2 hsw
        rw [← e2]
        rw [← ez] at hsw
        clear h2 e2 T1 G1 ez f5 c5' ck1 SX KX DX x25
        have S63 := S62.alloc (.cells #[.int .i64 (n : Int), .slice none 0 0] 37)
        have f6 := S63.frozen k
        have c6' : ∃ v, (w2.alloc (.cells #[.int .i64 (n : Int), .slice none 0 0] 37)).cell? ⟨x6, k, none⟩ = some v := by
          rw [S63.at k]
          match k, hk3 with
          | 0, _ => exact ⟨_, rfl⟩
          | 1, _ => exact ⟨_, rfl⟩
        obtain ⟨v6, c6'⟩ := c6'
        have f60 := S62.frozen k
        have c60 : ∃ v, w2.cell? ⟨x6, k, none⟩ = some v := by
          rw [S62.at k]
          match k, hk3 with
          | 0, _ => exact ⟨_, rfl⟩
          | 1, _ => exact ⟨_, rfl⟩
        obtain ⟨v60, c60⟩ := c60
        have x6l := S62.lt
        have KM := hid0 ((K2.out.alloc (.cells #[.int .i64 (n : Int), .slice none 0 0] 37)).other (a := ⟨x6, k, none⟩) (bk_ne (K2.out.alloc (.cells #[.int .i64 (n : Int), .slice none 0 0] 37)) S63 (by decide)) (pT zz))
        have DM : Hid (Below w.heap.size w ((w2.alloc (.cells #[.int .i64 (n : Int), .slice none 0 0] 37)).setCell ⟨x6, k, none⟩ (pT zz))) := by
          have h3 : Below w.heap.size w (w2.alloc (.cells #[.int .i64 (n : Int), .slice none 0 0] 37)) := D2.out.trans (((Gr.refl w2).alloc _).below.mono D2.out.size)
          exact h3.setCell (p := ⟨x6, k, none⟩) l6 _
        clear K2 S62 S63 D2
        go_wp2
        go_roundg (2 - (k + 1))
        case measure => omega
        case rel => exact ⟨k + 1, _, by simp, by omega, rfl, by first | exact SM | (rw [hsw]; exact SM), by first | exact KM | (rw [hsw]; exact KM), by first | exact DM | (rw [hsw]; exact DM)⟩
      · have FT := hid0 (fits_any (N k))
        rw [show (decide (0 ≤ N k) && decide (N k ≤ 65536)) = false by simp; omega] at FT
        have NB := hid0 (new_no (N k) wr (by omega))
        have LI := hid0 (lives_any wr (HT.out.below DX.out))
        clear hf
        go_wp2_with fail
        refine NB.out.mono ?_
        rintro e w1 ⟨rfl, hw⟩
        cases hw
        clear NB
        go_wp2_with (first | (go_at_call 7; refine (FT.out _).mono ?_; rintro e v1 ⟨rfl, hw⟩; cases hw) | fail)
        refine LI.out.mono ?_
        rintro e w2 ⟨rfl, hB⟩
        have HB := hid0 (DX.out.trans (hB.mono hsz))
        clear hB LI SX KX DX
        go_wp2
        go_ret
        exact ⟨rfl, HB.out⟩
    · have hk3' : ¬ (k : Int) < 2 := by omega
      obtain rfl : k = 2 := by omega
      have H1 : Hid (Hold w wr x5 x6 f (.slice none 0 0) []) := ⟨DX.out, SX.out, World.ownsRow_nil _ _ _ _, fun k hk => (by simp at hk), fun k hk => (by simp at hk)⟩
      clear SX DX KX
      go_wp2
      go_loopg [10, 11] LN (fun kx s10 s11 wr => ∃ (i : Nat) (f : Nat → Sd) (kv : Value) (ks : List Ke), kv = s10 ∧ s11 = .int .i64 (i : Int) ∧ i ≤ LN ∧ kx = LN - i ∧ Hid (Hold w wr x5 x6 f kv ks) ∧ ks.length ≤ i)
      case atStart => exact ⟨0, f, _, [], rfl, rfl, Nat.zero_le _, rfl, H1, Nat.le_refl _⟩
      case round =>
        clear H1
        obtain ⟨i, f, kv, ks, rfl, rfl, hi, rfl, HX, hks⟩ := hrel
        have hlnb := HLN.out
        by_cases hlt : i < LN
        · have hlt' : (i : Int) < (LN : Int) := by omega
          obtain ⟨x, hx⟩ : ∃ x, l[i]? = some x := ⟨_, List.getElem?_eq_getElem (by rw [HL.out]; exact hlt)⟩
          obtain ⟨d, o, id, n, a⟩ := x
          have HXI := hid0 hx
          obtain ⟨b1, off, ea, s0, s1, s2, s3, s4⟩ := (HS.out.below HX.out.bel) i _ hx
          simp only at s0 s1 s2 s3 s4
          subst ea
          clear hx
          cases o
          · by_cases hd5 : d = 5
            · subst hd5
              have PJ := HX.out.ty.pr 0 (by omega)
              have gD := (Gr.refl wr).drew
              obtain ⟨ao0, c0, ekv⟩ := own_slice HX.out.own
              subst ekv
              have c5 : wr.cell? ⟨x5, 0, none⟩ = some (pT (f 0).t) := HX.out.ty.k5.at 0
              have c6 : wr.cell? ⟨x6, 0, none⟩ = some (pT (f 0).r) := HX.out.ty.k6.at 0
              have AJ : Hid (∀ V, Gr wr V → Calls Tryd.prog 9 #[pT (f 0).t] V (TAllR V (f 0).L)) := fun V g => tall_any (HX.out.ty.pr 0 (by omega) |>.gr g).tab
              have CJ : Hid (∀ V, Below wr.heap.size wr V → Calls Tryd.prog 10 #[pT (f 0).r] V fun e w' => ∃ u, e = .returned u ∧ OwnP w' V.heap.size u (f 0).L ∧ Below V.heap.size V w') := fun V g => copy_any ((HX.out.ty.pr 0 (by omega)).below g).ref (Nat.le_trans PJ.tab.len PJ.tab.most)
              have s5 : ∀ V, Below wr.heap.size wr V → V.cell? ⟨x5, 0, none⟩ = some (pT (f 0).t) ∧ V.cell? ⟨x6, 0, none⟩ = some (pT (f 0).r) := fun V g => ⟨below_cell c5 g, below_cell c6 g⟩
              have OWN : Hid (∀ V, Below wr.heap.size wr V → V.ownsRow w.heap.size 47 2 (.slice ao0 ks.length c0) ks.length (ks.flatMap kC)) := fun V g => own_below HX.out.own g
              have hszr : w.heap.size ≤ wr.heap.size := HX.out.bel.size
              have hksb : ks.length + 1 ≤ maxLen := by unfold maxLen; omega
              have hksb2 : (ks.length + 1) * 32 ≤ 140737488355328 := by omega
              clear PJ c5 c6
              go_upto_region 21 with fail
              clear s0 s1 s2 s3 s4
              go_region_held3 (fun V => V.cell? ⟨x5, 0, none⟩ = some (pT (f 0).t) ∧ V.cell? ⟨x6, 0, none⟩ = some (pT (f 0).r))
                (first
                  | exact s5 _ gD.below
                  | exact ⟨c53, c63⟩
                  | exact s5 _ (B2.out.trans (((Gr.refl _).alloc _).below.mono B2.out.size))
                  | exact s5 _ B2.out
                  | exact s5 _ B1.out
                  | assumption)
                (first
                  | (go_at_call 9; refine (AJ.out _ gD).mono ?_; rintro e v1 ⟨bt, v0, rfl, hK1, hb1, hv1⟩; have K1 := hid0 hK1; have B1 := hid0 (gD.below.trans (hb1.mono gD.size)); have V1 := hid0 hv1; have q1 := s5 v1 B1.out)
                  | (go_at_call 10; refine (CJ.out v1 B1.out).mono ?_; rintro e v2 ⟨u, rfl, hO2, hb2⟩; obtain ⟨aou, cu, rfl⟩ := own_slice hO2; have O2 := hid0 hO2; have BB2 := hid0 hb2; have B2 := hid0 (B1.out.trans (hb2.mono B1.out.size)); have q2 := s5 v2 B2.out)
                  | (refine step_append_own rfl (.tmp 72) (.tmp 82) 38 rfl w.heap.size 47 i0 (.agg #[.nilFunc, .slice none 0 0]) 2 32 Tryd.underlying38 hi0 hz0 hz1 hz2 rfl (by decide) (.slice ao0 ks.length c0) ks.length (ks.flatMap kC) (by simp [Act.eval, Act.put]) ((OWN.out v2 B2.out).alloc _) ⟨v2.heap.size, 0, none⟩ 1 1 [.func (.func 39) #[] #[pT bt], .slice aou (f 0).L.length cu] (by simp [Act.eval, Act.put]) rfl (two_newN _ _ _ _) (by simp [Value.oneCell']) hksb hksb2 (by simp; have := B2.out.size; omega) ?_; intro kv' w3 ho3 hg3; have HK3 := hid0 (Hold.keep (i := 0) HX.out (by omega) K1.out V1.out B1.out O2.out BB2.out hg3 ho3); have c53 : w3.cell? ⟨x5, 0, none⟩ = some (pT (f 0).t) := HK3.out.ty.k5.at 0; have c63 : w3.cell? ⟨x6, 0, none⟩ = some (pT (f 0).r) := HK3.out.ty.k6.at 0))
              have hkl : (ks ++ [(⟨bt, v0, (f 0).L, .slice aou (f 0).L.length cu⟩ : Ke)]).length ≤ i + 1 := by simp; omega
              clear AJ CJ OWN s5 gD K1 V1 O2 BB2 B1 B2 q1 q2 c53 c63
              generalize (ks ++ [(⟨bt, v0, (f 0).L, .slice aou (f 0).L.length cu⟩ : Ke)]) = ks' at *
              have HY := HK3
              have SY : Stps w3 (some ⟨b1, off, none⟩) l := HS.out.below HY.out.bel
              obtain ⟨b1', off', ea', s0, s1, s2, s3, s4⟩ := SY i _ HXI.out
              simp only [Option.some.injEq, Addr.mk.injEq, and_true] at ea'
              obtain ⟨e1', e2'⟩ := ea'
              subst e1' e2'
              have c5 : w3.cell? ⟨x5, 0, none⟩ = some (pT (f 0).t) := HY.out.ty.k5.at 0
              have c6 : w3.cell? ⟨x6, 0, none⟩ = some (pT (f 0).r) := HY.out.ty.k6.at 0
              have c5m := fun m => below_cell c5 ((Gr.refl w3).drewN m).below
              have c6m := fun m => below_cell c6 ((Gr.refl w3).drewN m).below
              have s0m := fun m => below_cell s0 ((Gr.refl w3).drewN m).below
              have s1m := fun m => below_cell s1 ((Gr.refl w3).drewN m).below
              have s2m := fun m => below_cell s2 ((Gr.refl w3).drewN m).below
              have s3m := fun m => below_cell s3 ((Gr.refl w3).drewN m).below
              have s4m := fun m => below_cell s4 ((Gr.refl w3).drewN m).below
              have HXm : Hid (∀ m, Hold w (w3.drewN m) x5 x6 f kv' ks') := fun m => HY.out.gr ((Gr.refl w3).drewN m)
              clear c5 c6 s0 s1 s2 s3 s4 SY HX HY
              go_upto_region 22 with fail
              obtain ⟨nF, hnF⟩ : ∃ nF : Nat, 5 ≤ nF := ⟨5, by omega⟩
              have h1n : 1 ≤ nF := by omega
              refine (wpIn_wide (n := nF)).1 ?_
              refine region_head_lit 10 (by kernel_rfl) (by kernel_rfl) (by simp) (by kernel_rfl) ?_
              simp only [List.take_succ_cons, List.take_zero, List.drop_succ_cons, List.drop_zero]
              repeat (gi_big_quiet_step (fail))
              refine wpQuietIn_nil ?_
              intro _ hw'
              obtain ⟨q, rfl⟩ := hw'
              have HQ := hid0 (HXm.out q)
              clear HXm c5m c6m s0m s1m s2m s3m s4m
              generalize w3.drewN q = wq at *
              have DQ := hid0 (done_any (HQ.out.ty.pr 0 (by omega)) HQ.out.bel.size 5 false a id n)
              gi_wp2_with fail
              first | refine (callsIn_wide.2 DQ.out).mono ?_ | refine ⟨fun _ => by omega, (callsIn_wide.2 DQ.out).mono ?_⟩ | refine ⟨trivial, fun _ => by omega, (callsIn_wide.2 DQ.out).mono ?_⟩ | refine ⟨trivial, rfl, (callsIn_wide.2 DQ.out).mono ?_⟩ | refine ⟨trivial, (callsIn_wide.2 DQ.out).mono ?_⟩
              rintro e w2' ⟨rfl, v', vr', L', P2, C2, N1, N2⟩
              have HT2 := hid0 (HQ.out.turn (i := 0) (by omega) P2 C2 N1 N2)
              clear P2 C2 N1 N2 DQ HQ
              gi_wp2
              go_wp2
              go_roundg (LN - (i + 1))
              case measure => omega
              case rel => exact ⟨i + 1, _, _, ks', rfl, by simp, by omega, rfl, HT2, hkl⟩
            · have hd : (d == 5) = false := by simp; exact hd5
              go_upto_region 22 with fail
              clear s0 s1 s2 s3 s4
              have HY := HX
              have SY : Stps wr (some ⟨b1, off, none⟩) l := HS.out.below HY.out.bel
              obtain ⟨b1', off', ea', s0, s1, s2, s3, s4⟩ := SY i _ HXI.out
              simp only [Option.some.injEq, Addr.mk.injEq, and_true] at ea'
              obtain ⟨e1', e2'⟩ := ea'
              subst e1' e2'
              have c5 : wr.cell? ⟨x5, 0, none⟩ = some (pT (f 0).t) := HY.out.ty.k5.at 0
              have c6 : wr.cell? ⟨x6, 0, none⟩ = some (pT (f 0).r) := HY.out.ty.k6.at 0
              have c5m := fun m => below_cell c5 ((Gr.refl wr).drewN m).below
              have c6m := fun m => below_cell c6 ((Gr.refl wr).drewN m).below
              have s0m := fun m => below_cell s0 ((Gr.refl wr).drewN m).below
              have s1m := fun m => below_cell s1 ((Gr.refl wr).drewN m).below
              have s2m := fun m => below_cell s2 ((Gr.refl wr).drewN m).below
              have s3m := fun m => below_cell s3 ((Gr.refl wr).drewN m).below
              have s4m := fun m => below_cell s4 ((Gr.refl wr).drewN m).below
              have HXm : Hid (∀ m, Hold w (wr.drewN m) x5 x6 f kv ks) := fun m => HY.out.gr ((Gr.refl wr).drewN m)
              clear c5 c6 s0 s1 s2 s3 s4 SY HX HY
              go_upto_region 22 with fail
              obtain ⟨nF, hnF⟩ : ∃ nF : Nat, 5 ≤ nF := ⟨5, by omega⟩
              have h1n : 1 ≤ nF := by omega
              refine (wpIn_wide (n := nF)).1 ?_
              refine region_head_lit 10 (by kernel_rfl) (by kernel_rfl) (by simp) (by kernel_rfl) ?_
              simp only [List.take_succ_cons, List.take_zero, List.drop_succ_cons, List.drop_zero]
              repeat (gi_big_quiet_step (fail))
              refine wpQuietIn_nil ?_
              intro _ hw'
              obtain ⟨q, rfl⟩ := hw'
              have HQ := hid0 (HXm.out q)
              clear HXm c5m c6m s0m s1m s2m s3m s4m
              generalize wr.drewN q = wq at *
              have DQ := hid0 (done_any (HQ.out.ty.pr 0 (by omega)) HQ.out.bel.size d false a id n)
              gi_wp2_with fail
              first | refine (callsIn_wide.2 DQ.out).mono ?_ | refine ⟨fun _ => by omega, (callsIn_wide.2 DQ.out).mono ?_⟩ | refine ⟨trivial, fun _ => by omega, (callsIn_wide.2 DQ.out).mono ?_⟩ | refine ⟨trivial, rfl, (callsIn_wide.2 DQ.out).mono ?_⟩ | refine ⟨trivial, (callsIn_wide.2 DQ.out).mono ?_⟩
              rintro e w2' ⟨rfl, v', vr', L', P2, C2, N1, N2⟩
              have HT2 := hid0 (HQ.out.turn (i := 0) (by omega) P2 C2 N1 N2)
              clear P2 C2 N1 N2 DQ HQ
              gi_wp2
              go_wp2
              go_roundg (LN - (i + 1))
              case measure => omega
              case rel => exact ⟨i + 1, _, _, ks, rfl, by simp, by omega, rfl, HT2, by omega⟩
          · by_cases hd5 : d = 5
            · subst hd5
              have PJ := HX.out.ty.pr 1 (by omega)
              have gD := (Gr.refl wr).drew
              obtain ⟨ao0, c0, ekv⟩ := own_slice HX.out.own
              subst ekv
              have c5 : wr.cell? ⟨x5, 1, none⟩ = some (pT (f 1).t) := HX.out.ty.k5.at 1
              have c6 : wr.cell? ⟨x6, 1, none⟩ = some (pT (f 1).r) := HX.out.ty.k6.at 1
              have AJ : Hid (∀ V, Gr wr V → Calls Tryd.prog 9 #[pT (f 1).t] V (TAllR V (f 1).L)) := fun V g => tall_any (HX.out.ty.pr 1 (by omega) |>.gr g).tab
              have CJ : Hid (∀ V, Below wr.heap.size wr V → Calls Tryd.prog 10 #[pT (f 1).r] V fun e w' => ∃ u, e = .returned u ∧ OwnP w' V.heap.size u (f 1).L ∧ Below V.heap.size V w') := fun V g => copy_any ((HX.out.ty.pr 1 (by omega)).below g).ref (Nat.le_trans PJ.tab.len PJ.tab.most)
              have s5 : ∀ V, Below wr.heap.size wr V → V.cell? ⟨x5, 1, none⟩ = some (pT (f 1).t) ∧ V.cell? ⟨x6, 1, none⟩ = some (pT (f 1).r) := fun V g => ⟨below_cell c5 g, below_cell c6 g⟩
              have OWN : Hid (∀ V, Below wr.heap.size wr V → V.ownsRow w.heap.size 47 2 (.slice ao0 ks.length c0) ks.length (ks.flatMap kC)) := fun V g => own_below HX.out.own g
              have hszr : w.heap.size ≤ wr.heap.size := HX.out.bel.size
              have hksb : ks.length + 1 ≤ maxLen := by unfold maxLen; omega
              have hksb2 : (ks.length + 1) * 32 ≤ 140737488355328 := by omega
              clear PJ c5 c6
              go_upto_region 21 with fail
              clear s0 s1 s2 s3 s4
              go_region_held3 (fun V => V.cell? ⟨x5, 1, none⟩ = some (pT (f 1).t) ∧ V.cell? ⟨x6, 1, none⟩ = some (pT (f 1).r))
                (first
                  | exact s5 _ gD.below
                  | exact ⟨c53, c63⟩
                  | exact s5 _ (B2.out.trans (((Gr.refl _).alloc _).below.mono B2.out.size))
                  | exact s5 _ B2.out
                  | exact s5 _ B1.out
                  | assumption)
                (first
                  | (go_at_call 9; refine (AJ.out _ gD).mono ?_; rintro e v1 ⟨bt, v0, rfl, hK1, hb1, hv1⟩; have K1 := hid0 hK1; have B1 := hid0 (gD.below.trans (hb1.mono gD.size)); have V1 := hid0 hv1; have q1 := s5 v1 B1.out)
                  | (go_at_call 10; refine (CJ.out v1 B1.out).mono ?_; rintro e v2 ⟨u, rfl, hO2, hb2⟩; obtain ⟨aou, cu, rfl⟩ := own_slice hO2; have O2 := hid0 hO2; have BB2 := hid0 hb2; have B2 := hid0 (B1.out.trans (hb2.mono B1.out.size)); have q2 := s5 v2 B2.out)
                  | (refine step_append_own rfl (.tmp 72) (.tmp 82) 38 rfl w.heap.size 47 i0 (.agg #[.nilFunc, .slice none 0 0]) 2 32 Tryd.underlying38 hi0 hz0 hz1 hz2 rfl (by decide) (.slice ao0 ks.length c0) ks.length (ks.flatMap kC) (by simp [Act.eval, Act.put]) ((OWN.out v2 B2.out).alloc _) ⟨v2.heap.size, 0, none⟩ 1 1 [.func (.func 39) #[] #[pT bt], .slice aou (f 1).L.length cu] (by simp [Act.eval, Act.put]) rfl (two_newN _ _ _ _) (by simp [Value.oneCell']) hksb hksb2 (by simp; have := B2.out.size; omega) ?_; intro kv' w3 ho3 hg3; have HK3 := hid0 (Hold.keep (i := 1) HX.out (by omega) K1.out V1.out B1.out O2.out BB2.out hg3 ho3); have c53 : w3.cell? ⟨x5, 1, none⟩ = some (pT (f 1).t) := HK3.out.ty.k5.at 1; have c63 : w3.cell? ⟨x6, 1, none⟩ = some (pT (f 1).r) := HK3.out.ty.k6.at 1))
              have hkl : (ks ++ [(⟨bt, v0, (f 1).L, .slice aou (f 1).L.length cu⟩ : Ke)]).length ≤ i + 1 := by simp; omega
              clear AJ CJ OWN s5 gD K1 V1 O2 BB2 B1 B2 q1 q2 c53 c63
              generalize (ks ++ [(⟨bt, v0, (f 1).L, .slice aou (f 1).L.length cu⟩ : Ke)]) = ks' at *
              have HY := HK3
              have SY : Stps w3 (some ⟨b1, off, none⟩) l := HS.out.below HY.out.bel
              obtain ⟨b1', off', ea', s0, s1, s2, s3, s4⟩ := SY i _ HXI.out
              simp only [Option.some.injEq, Addr.mk.injEq, and_true] at ea'
              obtain ⟨e1', e2'⟩ := ea'
              subst e1' e2'
              have c5 : w3.cell? ⟨x5, 1, none⟩ = some (pT (f 1).t) := HY.out.ty.k5.at 1
              have c6 : w3.cell? ⟨x6, 1, none⟩ = some (pT (f 1).r) := HY.out.ty.k6.at 1
              have c5m := fun m => below_cell c5 ((Gr.refl w3).drewN m).below
              have c6m := fun m => below_cell c6 ((Gr.refl w3).drewN m).below
              have s0m := fun m => below_cell s0 ((Gr.refl w3).drewN m).below
              have s1m := fun m => below_cell s1 ((Gr.refl w3).drewN m).below
              have s2m := fun m => below_cell s2 ((Gr.refl w3).drewN m).below
              have s3m := fun m => below_cell s3 ((Gr.refl w3).drewN m).below
              have s4m := fun m => below_cell s4 ((Gr.refl w3).drewN m).below
              have HXm : Hid (∀ m, Hold w (w3.drewN m) x5 x6 f kv' ks') := fun m => HY.out.gr ((Gr.refl w3).drewN m)
              clear c5 c6 s0 s1 s2 s3 s4 SY HX HY
              go_upto_region 22 with fail
              obtain ⟨nF, hnF⟩ : ∃ nF : Nat, 5 ≤ nF := ⟨5, by omega⟩
              have h1n : 1 ≤ nF := by omega
              refine (wpIn_wide (n := nF)).1 ?_
              refine region_head_lit 10 (by kernel_rfl) (by kernel_rfl) (by simp) (by kernel_rfl) ?_
              simp only [List.take_succ_cons, List.take_zero, List.drop_succ_cons, List.drop_zero]
              repeat (gi_big_quiet_step (fail))
              refine wpQuietIn_nil ?_
              intro _ hw'
              obtain ⟨q, rfl⟩ := hw'
              have HQ := hid0 (HXm.out q)
              clear HXm c5m c6m s0m s1m s2m s3m s4m
              generalize w3.drewN q = wq at *
              have DQ := hid0 (done_any (HQ.out.ty.pr 1 (by omega)) HQ.out.bel.size 5 true a id n)
              gi_wp2_with fail
              first | refine (callsIn_wide.2 DQ.out).mono ?_ | refine ⟨fun _ => by omega, (callsIn_wide.2 DQ.out).mono ?_⟩ | refine ⟨trivial, fun _ => by omega, (callsIn_wide.2 DQ.out).mono ?_⟩ | refine ⟨trivial, rfl, (callsIn_wide.2 DQ.out).mono ?_⟩ | refine ⟨trivial, (callsIn_wide.2 DQ.out).mono ?_⟩
              rintro e w2' ⟨rfl, v', vr', L', P2, C2, N1, N2⟩
              have HT2 := hid0 (HQ.out.turn (i := 1) (by omega) P2 C2 N1 N2)
              clear P2 C2 N1 N2 DQ HQ
              gi_wp2
              go_wp2
              go_roundg (LN - (i + 1))
              case measure => omega
              case rel => exact ⟨i + 1, _, _, ks', rfl, by simp, by omega, rfl, HT2, hkl⟩
            · have hd : (d == 5) = false := by simp; exact hd5
              go_upto_region 22 with fail
              clear s0 s1 s2 s3 s4
              have HY := HX
              have SY : Stps wr (some ⟨b1, off, none⟩) l := HS.out.below HY.out.bel
              obtain ⟨b1', off', ea', s0, s1, s2, s3, s4⟩ := SY i _ HXI.out
              simp only [Option.some.injEq, Addr.mk.injEq, and_true] at ea'
              obtain ⟨e1', e2'⟩ := ea'
              subst e1' e2'
              have c5 : wr.cell? ⟨x5, 1, none⟩ = some (pT (f 1).t) := HY.out.ty.k5.at 1
              have c6 : wr.cell? ⟨x6, 1, none⟩ = some (pT (f 1).r) := HY.out.ty.k6.at 1
              have c5m := fun m => below_cell c5 ((Gr.refl wr).drewN m).below
              have c6m := fun m => below_cell c6 ((Gr.refl wr).drewN m).below
              have s0m := fun m => below_cell s0 ((Gr.refl wr).drewN m).below
              have s1m := fun m => below_cell s1 ((Gr.refl wr).drewN m).below
              have s2m := fun m => below_cell s2 ((Gr.refl wr).drewN m).below
              have s3m := fun m => below_cell s3 ((Gr.refl wr).drewN m).below
              have s4m := fun m => below_cell s4 ((Gr.refl wr).drewN m).below
              have HXm : Hid (∀ m, Hold w (wr.drewN m) x5 x6 f kv ks) := fun m => HY.out.gr ((Gr.refl wr).drewN m)
              clear c5 c6 s0 s1 s2 s3 s4 SY HX HY
              go_upto_region 22 with fail
              obtain ⟨nF, hnF⟩ : ∃ nF : Nat, 5 ≤ nF := ⟨5, by omega⟩
              have h1n : 1 ≤ nF := by omega
              refine (wpIn_wide (n := nF)).1 ?_
              refine region_head_lit 10 (by kernel_rfl) (by kernel_rfl) (by simp) (by kernel_rfl) ?_
              simp only [List.take_succ_cons, List.take_zero, List.drop_succ_cons, List.drop_zero]
              repeat (gi_big_quiet_step (fail))
              refine wpQuietIn_nil ?_
              intro _ hw'
              obtain ⟨q, rfl⟩ := hw'
              have HQ := hid0 (HXm.out q)
              clear HXm c5m c6m s0m s1m s2m s3m s4m
              generalize wr.drewN q = wq at *
              have DQ := hid0 (done_any (HQ.out.ty.pr 1 (by omega)) HQ.out.bel.size d true a id n)
              gi_wp2_with fail
              first | refine (callsIn_wide.2 DQ.out).mono ?_ | refine ⟨fun _ => by omega, (callsIn_wide.2 DQ.out).mono ?_⟩ | refine ⟨trivial, fun _ => by omega, (callsIn_wide.2 DQ.out).mono ?_⟩ | refine ⟨trivial, rfl, (callsIn_wide.2 DQ.out).mono ?_⟩ | refine ⟨trivial, (callsIn_wide.2 DQ.out).mono ?_⟩
              rintro e w2' ⟨rfl, v', vr', L', P2, C2, N1, N2⟩
              have HT2 := hid0 (HQ.out.turn (i := 1) (by omega) P2 C2 N1 N2)
              clear P2 C2 N1 N2 DQ HQ
              gi_wp2
              go_wp2
              go_roundg (LN - (i + 1))
              case measure => omega
              case rel => exact ⟨i + 1, _, _, ks, rfl, by simp, by omega, rfl, HT2, by omega⟩
        · have hge : ¬ (i : Int) < (LN : Int) := by omega
          obtain ⟨ao0, c0, ekv⟩ := own_slice HX.out.own
          subst ekv
          have hkn : ks.length ≤ 4398046511104 := by omega
          clear hks
          generalize hm : ks.length = m at *
          have HM := hid0 hm
          clear hm
          have hmI : (m : Int) < 9223372036854775807 := by omega
          go_wp2
          go_loopg [13] m (fun kx s13 wr => ∃ q : Nat, s13 = .int .i64 (q : Int) ∧ q ≤ m ∧ kx = m - q ∧ Hid (Hold w wr x5 x6 f (.slice ao0 m c0) ks))
          case atStart => exact ⟨0, rfl, Nat.zero_le _, rfl, HX⟩
          case round =>
            clear HX
            obtain ⟨q, rfl, hq, rfl, HX⟩ := hrel
            by_cases hqm : q < m
            · have hqm' : (q : Int) < (m : Int) := by omega
              obtain ⟨κ, hκ⟩ : ∃ κ, ks[q]? = some κ := ⟨_, List.getElem?_eq_getElem (by rw [HM.out]; exact hqm)⟩
              have hmem := List.mem_of_getElem? hκ
              obtain ⟨hK, hO⟩ := HX.out.ent κ hmem
              obtain ⟨aou, cu, eu, hPs, _⟩ := OwnP.ps hO
              obtain ⟨e0, e1⟩ := kC_at hκ
              obtain ⟨g, hg⟩ : ∃ g, ao0 = some ⟨g, 0, none⟩ := by
                have ho := HX.out.own
                rcases ho.2 with ⟨_, h2⟩ | ⟨g, cap, cur, e, _⟩
                · have := HM.out; omega
                · simp only [Value.slice.injEq] at e
                  exact ⟨g, e.1⟩
              subst hg
              have c0' := HX.out.own.cells (g := g) rfl (q * 2) _ e0
              have c1' := HX.out.own.cells (g := g) rfl (q * 2 + 1) _ e1
              rw [add_none0, Nat.zero_add] at c0' c1'
              rw [eu] at c1'
              have hfew := hK.few
              obtain ⟨P, hP⟩ : ∃ P, P = κ.L := ⟨_, rfl⟩
              have hPm : P.length ≤ 1000000 := by rw [hP]; omega
              have PA : Hid (∀ V, Below wr.heap.size wr V → Calls Tryd.prog 13 #[.func (.func 39) #[] #[pT κ.bt], .int .i64 0] V fun e w' => ∃ ao cap, e = .returned (.slice ao P.length cap) ∧ Ps w' ao P ∧ Below V.heap.size V w') := fun V gv => by
                have := pairs_any κ.bt κ.v κ.L 0 V (hK.below gv)
                rw [leftLE_zero, ← hP] at this
                exact this
              have PS : Hid (∀ V, Below wr.heap.size wr V → Ps V aou P) := fun V gv => by rw [hP]; exact hPs.below gv
              rw [← hP] at c1'
              have sS : ∀ V, Below wr.heap.size wr V → V.cell? ⟨g, q * 2, none⟩ = some (.func (.func 39) #[] #[pT κ.bt]) ∧ V.cell? ⟨g, q * 2 + 1, none⟩ = some (.slice aou P.length cu) := fun V gv => ⟨below_cell c0' gv, below_cell c1' gv⟩
              have gD : Hid (Below wr.heap.size wr wr.drew) := (Gr.refl wr).drew.below
              clear hκ hmem hK hO eu hPs e0 e1 c0' c1' hfew hP
              go_upto_region 27 with fail
              go_region_held3 (fun V => V.cell? ⟨g, q * 2, none⟩ = some (.func (.func 39) #[] #[pT κ.bt]) ∧ V.cell? ⟨g, q * 2 + 1, none⟩ = some (.slice aou P.length cu))
                (first
                  | exact sS _ gD.out
                  | assumption)
                (first
                  | (go_at_call 12; refine (same_pairs _ _ _ _ P v3 I3.out (PS.out v3 D3.out) hPm).mono ?_; rintro e v4 ⟨rfl, g4⟩; have D4 := hid0 (D3.out.trans (g4.below.mono D3.out.size)); have q4 := sS v4 D4.out)
                  | (go_at_call 13; refine (PA.out v2 D2.out).mono ?_; rintro e v3 ⟨a3, c3, rfl, i3, b3⟩; have I3 := hid0 i3; have D3 := hid0 (D2.out.trans (b3.mono D2.out.size)); have q3 := sS v3 D3.out)
                  | (go_at_call 12; refine (same_pairs _ _ _ _ P v1 I1.out (PS.out v1 D1.out) hPm).mono ?_; rintro e v2 ⟨rfl, g2⟩; have D2 := hid0 (D1.out.trans (g2.below.mono D1.out.size)); have q2 := sS v2 D2.out)
                  | (go_at_call 13; refine (PA.out _ gD.out).mono ?_; rintro e v1 ⟨a1, c1, rfl, i1, b1⟩; have I1 := hid0 i1; have D1 := hid0 (gD.out.trans (b1.mono gD.out.size)); have q1 := sS v1 D1.out))
              have HX4 := hid0 (HX.out.below D4.out)
              clear PA PS sS gD q1 q2 q3 q4 HX
              go_wp2
              go_roundg (m - (q + 1))
              case measure => omega
              case rel => exact ⟨q + 1, by simp, by omega, rfl, HX4⟩
            · have hqm' : ¬ (q : Int) < (m : Int) := by omega
              have c50 : wr.cell? ⟨x5, 0, none⟩ = some (pT (f 0).t) := HX.out.ty.k5.at 0
              have c60 : wr.cell? ⟨x6, 0, none⟩ = some (pT (f 0).r) := HX.out.ty.k6.at 0
              have DQ := hid0 (done_any (HX.out.ty.pr 0 (by omega)) HX.out.bel.size 4 false false 0 0)
              go_wp2_with fail
              refine DQ.out.mono ?_
              rintro e w2 ⟨rfl, v', vr', L', P2, C2, N1, N2⟩
              have HT2 := hid0 (HX.out.turn (i := 0) (by omega) P2 C2 N1 N2)
              clear P2 C2 N1 N2 DQ HX c50 c60
              generalize hff : updS f 0 _ = f2 at *
              clear hff
              have c51 : w2.cell? ⟨x5, 1, none⟩ = some (pT (f2 1).t) := HT2.out.ty.k5.at 1
              have c61 : w2.cell? ⟨x6, 1, none⟩ = some (pT (f2 1).r) := HT2.out.ty.k6.at 1
              have DQ := hid0 (done_any (HT2.out.ty.pr 1 (by omega)) HT2.out.bel.size 4 false false 0 0)
              go_wp2_with fail
              refine DQ.out.mono ?_
              rintro e w3 ⟨rfl, v', vr', L', P3, C3, N1, N2⟩
              have HT3 := hid0 (HT2.out.turn (i := 1) (by omega) P3 C3 N1 N2)
              clear P3 C3 N1 N2 DQ HT2 c51 c61
              have B3 := hid0 HT3.out.bel
              clear HT3
              have NQ := hid0 (none_any (.pointer none) w3 (.inl rfl))
              go_wp2_with fail
              refine NQ.out.mono ?_
              rintro e w4 ⟨rfl, hB4⟩
              have B4 := hid0 (B3.out.trans (hB4.mono B3.out.size))
              have NQ2 := hid0 (none_any (pT w4.heap.size) (w4.alloc (.cells #[.bool false, .int .i64 0, .slice none 0 0] 54)) (.inr ⟨_, _, _, rfl, Bk.new w4 54 [.bool false, .int .i64 0, .slice none 0 0]⟩))
              have B5 : Hid (Below w.heap.size w (w4.alloc (.cells #[.bool false, .int .i64 0, .slice none 0 0] 54))) := B4.out.trans (((Gr.refl w4).alloc _).below.mono B4.out.size)
              clear NQ hB4 B3 B4
              go_wp2_with fail
              refine NQ2.out.mono ?_
              rintro e w6 ⟨rfl, hB6⟩
              have B6 := hid0 (B5.out.trans (hB6.mono B5.out.size))
              have LI := hid0 (lives_any w6 (HT.out.below B6.out))
              clear NQ2 hB6 B5
              go_wp2_with fail
              refine LI.out.mono ?_
              rintro e w7 ⟨rfl, hB7⟩
              have B7 := hid0 (B6.out.trans (hB7.mono B6.out.size))
              clear LI hB7 B6
              go_wp2
              go_ret
              exact ⟨rfl, B7.out⟩
end Go.Proofs.YtjnjpjpgokdciaaDoor
