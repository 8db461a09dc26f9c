/- TableWalks' walk. -/
import Derived.Test.YtjnjpjpgokdciaaDoorTw
import Derived.Deep.CutBlock
set_option linter.unusedSimpArgs false
set_option linter.unusedVariables false
namespace Go.Proofs.YtjnjpjpgokdciaaDoor
open Go.RowKit Go.Sort Go.Shelf Go.Lib

def sumL (C : List Cl) : Nat := (C.map fun x => x.2.2.length).sum
theorem sumL_take (C : List Cl) (k : Nat) (x : Cl) (h : C[k]? = some x) : sumL (C.take (k + 1)) = sumL (C.take k) + x.2.2.length := by
  unfold sumL
  rw [List.take_add_one, h]
  simp
theorem sumL_le (C : List Cl) (k : Nat) : sumL (C.take k) ≤ sumL C := by
  conv => rhs; rw [← List.take_append_drop k C]
  unfold sumL
  rw [List.map_append, List.sum_append]
  omega
set_option maxRecDepth 100000 in
set_option maxHeartbeats 4000000 in
theorem walks_walk (a0 a1 : Option Addr) (cap0 cap1 : Nat) (ids : List Int) (C : List Cl) (w : World) (hT : Tab w) (hI : Us w a0 ids) (hC : Css w a1 C) (hb : ids.length + sumL C ≤ 1048576) (hcl : C.length ≤ 1048576) :
    Calls Tryd.prog 4 #[.slice a0 ids.length cap0, .slice a1 C.length cap1] w fun e w' => e = .returned (.bool true) ∧ Below w.heap.size w w' := by
  have NW : Hid (Calls Tryd.prog 6 #[.int .i64 65536] w fun e w' => ∃ t, e = .returned (.tuple #[pT t, .int .i64 0]) ∧ TabIs w.heap.size w' t 65536 (.slice none 0 0) [] ∧ Gr w w') := by
    have := new_yes 65536 w (by omega)
    exact this
  have HT := hid0 hT
  have HI := hid0 hI
  have HC := hid0 hC
  have HB := hid0 hb
  have HCL := hid0 hcl
  clear hT hI hC hb hcl
  generalize hn : ids.length = N at *
  generalize hm : C.length = M at *
  have HN := hid0 hn
  have HM := hid0 hm
  clear hn hm
  go_enter Tryd.func4, Tryd.ntmps4
  go_wp2_with fail
  refine NW.out.mono ?_
  rintro e w1 ⟨t, rfl, h1, g1⟩
  have T1 := hid0 h1
  have G1 := hid0 g1
  clear NW h1 g1
  by_cases hbig : 1000 < N
  · have d1 : decide ((N : Int) > 1000) = true := decide_eq_true (by omega)
    have LI := hid0 (lives_any w1 (HT.out.gr G1.out))
    go_wp2_with fail
    refine LI.out.mono ?_
    rintro e w2 ⟨rfl, hB⟩
    have HBe := hid0 hB
    clear hB LI
    go_wp2
    go_ret
    exact ⟨rfl, G1.out.below.trans (HBe.out.mono G1.out.size)⟩
  have d1 : decide ((N : Int) > 1000) = false := decide_eq_false (by omega)
  have d2 : ¬ ((N : Int) > 1000) := by omega
  go_wp2
  go_loopg [7] N (fun kx s7 wr => ∃ (i : Nat) (v : Value) (L : List En), s7 = .int .i64 (i : Int) ∧ i ≤ N ∧ kx = N - i ∧ Hid (TabIs w.heap.size wr t 65536 v L) ∧ Hid (Below w.heap.size w wr) ∧ L.length ≤ i ∧ Hid (∀ z, z ∈ nms L ↔ z ∈ ids.take i))
  case atStart => exact ⟨0, _, _, rfl, Nat.zero_le _, rfl, T1, G1.out.below, Nat.le_refl _, fun z => by simp [nms]⟩
  case round =>
    obtain ⟨i, v, L, rfl, hi, rfl, TB, BE, hLi, HZ⟩ := hrel
    clear T1 G1
    by_cases hlt : i < N
    · have hlt' : (i : Int) < (N : Int) := by omega
      obtain ⟨x, hx⟩ : ∃ x, ids[i]? = some x := ⟨_, List.getElem?_eq_getElem (by rw [HN.out]; exact hlt)⟩
      obtain ⟨b, off, rfl, c0⟩ := HI.out i x hx
      have cc : ∀ V, Below w.heap.size w V → V.cell? ⟨b, off + i, none⟩ = some (.int .u32 x) := fun V g => below_cell c0 g
      have ec : wr.drew.cell? ⟨b, off + i, none⟩ = some (.int .u32 x) := cc _ (BE.out.trans ((Gr.refl wr).drew.below.mono BE.out.size))
      have PU : Hid (∀ n V, Gr wr V → Calls Tryd.prog 15 #[pT t, .int .u32 x, vV n] V (PutW w.heap.size t 65536 v L x V)) := fun n V g => put_w (TB.out.gr g) (Nat.le_trans BE.out.size g.size) x n
      have HX := hid0 hx
      have hi1000 : N ≤ 1000 := by omega
      have gs : Gr wr wr.drew := (Gr.refl wr).drew
      clear hx c0
      go_upto_region 7 with fail
      go_region_held3 (fun V => V.cell? ⟨b, off + i, none⟩ = some (.int .u32 x))
        (first
          | assumption
          | exact ec)
        (first
          | (go_at_call 15; refine (PU.out _ _ s1).mono ?_; rintro e v2 ⟨r2, v', L', rfl, hT2, hC2, -, hP1, hP2, hP3, hP4⟩; have T2 := hid0 hT2; have B2 : Hid (Below w.heap.size w v2) := ((BE.out.trans (s1.below.mono BE.out.size)).trans (hC2.below (Nat.le_trans BE.out.size s1.size) (fun k e => by rcases e with rfl | e; exact TB.out.t0; exact (TB.out.sl.lt e).2.1))); have e2 := cc v2 B2.out; have Z2 := hid0 (And.intro hP1 (And.intro hP2 hP3)); clear hT2 hC2 hP1 hP2 hP3)
          | (go_at_call 16; refine (of_any _ _).mono ?_; rintro e v1 ⟨rfl, g1⟩; have s1 : Gr wr v1 := gs.trans g1; have e1 := cc v1 (BE.out.trans (s1.below.mono BE.out.size))))
      have Z3 : Hid (∀ z, z ∈ nms L' ↔ z ∈ ids.take (i + 1)) := fun z => by
        rw [List.take_add_one, HX.out]
        have h1 := Z2.out.1 z
        have h2 := Z2.out.2.1 z
        have h3 := Z2.out.2.2 (by omega)
        have h4 := HZ.out z
        simp only [Option.toList_some, List.mem_append, List.mem_singleton]
        constructor
        · intro h
          rcases h2 h with h | h
          · exact .inr h
          · exact .inl (h4.1 h)
        · rintro (h | rfl)
          · exact h1 (h4.2 h)
          · exact h3
      clear PU cc ec e1 e2 s1 gs g1 HX Z2 TB BE HZ
      go_wp2
      go_roundg (N - (i + 1))
      case measure => omega
      case rel => exact ⟨i + 1, v', L', by simp, by omega, rfl, T2, B2, by omega, Z3⟩
    · have hge : ¬ (i : Int) < (N : Int) := by omega
      obtain rfl : i = N := by omega
      replace HZ : Hid (∀ z, z ∈ nms L ↔ z ∈ ids) := fun z => by rw [HZ.out z, List.take_of_length_le (by rw [HN.out]; omega)]
      go_wp2
      go_loopg [8, 9] M (fun kx s8 s9 wx => ∃ j : Nat, s8 = .int .i64 ((i + sumL (C.take j) : Nat) : Int) ∧ s9 = .int .i64 (j : Int) ∧ j ≤ M ∧ kx = M - j ∧ wx = wr)
      case atStart => exact ⟨0, by simp [sumL], rfl, Nat.zero_le _, rfl, rfl⟩
      case round =>
        obtain ⟨j, rfl, rfl, hj, rfl, rfl⟩ := hrel
        by_cases hjl : j < M
        · have hjl' : (j : Int) < (M : Int) := by omega
          obtain ⟨x, hx⟩ : ∃ x, C[j]? = some x := ⟨_, List.getElem?_eq_getElem (by rw [HM.out]; exact hjl)⟩
          obtain ⟨⟨b, off, rfl, c0⟩, _⟩ := (HC.out.below BE.out) j x hx
          have hs := sumL_take C j x hx
          have hle := sumL_le C (j + 1)
          have hB := HB.out
          have HS : Hid (i + sumL (C.take (j + 1)) = i + sumL (C.take j) + x.2.2.length) := by show _ = _; omega
          have hbd : i + sumL (C.take j) + x.2.2.length ≤ 1048576 := by omega
          clear hs hle hB hx
          generalize i + sumL (C.take j) = A at *
          have hcl := HCL.out
          go_wp2
          go_roundg (M - (j + 1))
          case measure => omega
          case rel => exact ⟨j + 1, by rw [HS.out]; simp, by simp, by omega, rfl, rfl⟩
        · have hge2 : ¬ (j : Int) < (M : Int) := by omega
          obtain rfl : j = M := by omega
          rw [List.take_of_length_le (by rw [HM.out]; omega)]
          have ND := hid0 (next_w0 TB.out 77)
          obtain ⟨A, hA⟩ : ∃ A, A = i + sumL C := ⟨_, rfl⟩
          rw [← hA]
          have HA := hid0 hA
          have hA2 : A ≤ 1048576 := by rw [hA]; exact HB.out
          clear hA
          go_wp2_with fail
          refine ND.out.mono ?_
          rintro e w3 ⟨id, n3, ok, rfl, hNx, hG3⟩
          have W3 : Hid (TwW w w3 t v L (.slice none 0 0) [] (.slice none 0 0) []) := ⟨BE.out.trans (hG3.below.mono BE.out.size), TB.out.gr hG3, World.ownsRow_nil _ _ _ _, World.ownsRow_nil _ _ _ _, fun g e => by cases e⟩
          have NX := hid0 hNx
          have WI : Hid (WkI ids ids [] [] L) := ⟨List.Pairwise.nil, fun x hx => by simp at hx, fun x hx => (HZ.out x).1 hx, fun x hx => .inr ⟨(HZ.out x).2 hx, fun ⟨t, ht, _⟩ => by simp at ht⟩⟩
          clear ND hNx hG3 TB BE HZ
          have gA := (Gr.refl w3).alloc (.cells #[.int .i64 n3, .string (sB n3)] 32)
          have WA := hid0 (W3.out.gr gA)
          clear gA W3
          obtain ⟨i0, hi0, hz0, hz1, hz2⟩ := info_parts u_info
          go_upto_region 15 with fail
          generalize World.alloc _ _ = w4 at *
          go_wp2
          go_loopg [10, 11, 12, 14, 15] A (fun kx s10 s11 s12 s14 s15 wx => ∃ (v : Value) (L : List En) (told gone : List Int) (id : Int) (ok : Bool) (P : List Int) (n : Nat), s12 = .int .u32 id ∧ s14 = .bool ok ∧ s15 = .int .i64 (n : Int) ∧ Hid (TwW w wx t v L s10 told s11 gone) ∧ Hid (WkI ids P told gone L) ∧ Hid (NxI told L id ok) ∧ Hid (told.length = n) ∧ P.length ≤ i + sumL (C.take n) ∧ gone.length ≤ sumL (C.take n) ∧ kx = A - n)
          case atStart => exact ⟨v, L, [], [], id, ok, ids, 0, rfl, rfl, rfl, WA, WI, NX, rfl, by rw [HN.out]; omega, by simp, rfl⟩
          case round =>
            clear WA WI NX
            obtain ⟨v, L, told, gone, id, ok, P, n, rfl, rfl, rfl, TA, WI, NX, hln, hP, hgl, rfl⟩ := hrel
            obtain ⟨wx, hwx⟩ : ∃ W, W = wr := ⟨_, rfl⟩
            subst hwx
            cases ok with
            | true =>
              have hnA : n < A := by
                have h1 := WI.out.len NX.out
                have h2 := hln.out
                have h3 := sumL_le C n
                have h4 := HA.out
                omega
              have WT := hid0 (WI.out.tell NX.out)
              have hnA' : ¬ (n : Int) ≥ (A : Int) := by omega
              have hnA2 : decide ((n : Int) ≥ (A : Int)) = false := decide_eq_false hnA'
              obtain ⟨ao, cap, ev, hU⟩ := TA.out.told.us
              have hlt2 : Hid (∀ y ∈ told, y < id) := (NX.out.1 rfl).2.1
              rw [hln.out] at ev
              subst ev
              have U := hid0 hU
              clear hU
              go_upto_region 18 with fail
              go_cut [95] (fun s95 w' => s95 = .bool false ∧ w' = wx)
              case first =>
                cases n with
                | zero =>
                  go_wp2
                  go_meet
                  case rel => exact ⟨congrArg Value.bool (decide_eq_false (by omega)), rfl⟩
                | succ m =>
                  obtain ⟨y, hy⟩ : ∃ y, told[m]? = some y := ⟨_, List.getElem?_eq_getElem (by rw [hln.out]; omega)⟩
                  obtain ⟨b, off, rfl, c0⟩ := U.out m y hy
                  have hyid := hlt2.out y (List.mem_of_getElem? hy)
                  have hle : decide (id ≤ y) = false := decide_eq_false (by omega)
                  have hle' : ¬ id ≤ y := by omega
                  have hm0 : decide (((m : Int) + 1) > 0) = true := decide_eq_true (by omega)
                  have hm1 : decide ((0 : Int) < ((m : Int) + 1)) = true := decide_eq_true (by omega)
                  have hw : IntKind.i64.wrap ((m : Int) + 1 - 1) = (m : Int) := by rw [IntKind.wrap_i64]; omega
                  clear hy hyid hlt2 U
                  go_wp2
                  go_meet
                  case rel => exact ⟨congrArg Value.bool (decide_eq_false (by omega)), rfl⟩
              case rest =>
                obtain ⟨rfl, hw⟩ := hcut
                have hw' := hw.symm
                subst hw'
                clear hlt2 U hnA' hnA2
                have OW : Hid (wx.ownsRow w.heap.size 39 1 (.slice ao n cap) n (told.map uV)) := by
                  have := TA.out.told
                  unfold OwnU at this
                  rwa [hln.out] at this
                have hsz := TA.out.size
                have hA3 := hA2
                go_upto_region 20 with fail
                go_wp2_with (at_builtin; refine wpList_append_own_at _ rfl (.tmp 96) (.tmp 98) 56 rfl w.heap.size 39 i0 (.int .u32 0) 1 4 Tryd.underlying56 hi0 hz0 hz1 hz2 rfl (by decide) _ _ _ rfl (OW.out.alloc _) ⟨wx.heap.size, 0, none⟩ 1 1 [.int .u32 id] rfl rfl (by intro j u hj; match j, hj with | 0, hj => (simp at hj; subst hj; simp [Addr.add])) (fun u hu => by simp at hu; subst hu; rfl) (by unfold maxLen; omega) (by omega) (by simp; omega) ?_)
                intro sv' w1 hown' hgrow _ hat
                have gB := (Gr.refl wx).alloc (.cells #[.int .u32 id] 39)
                have hO : OwnU w1 w.heap.size sv' (told ++ [id]) := by
                  unfold OwnU
                  rw [List.length_append, hln.out, List.map_append]
                  exact hown'
                have TB := hid0 ((TA.out.gr gB).tell hgrow hO (by
                  rcases hat with h | h
                  · exact .inl h
                  · exact .inr ⟨_, h, by simp⟩))
                clear hown' hgrow hat hO OW TA gB
                by_cases hnm : n < j
                · have hnm' : (n : Int) < (j : Int) := by omega
                  obtain ⟨x, hx⟩ : ∃ x, C[n]? = some x := ⟨_, List.getElem?_eq_getElem (by rw [HM.out]; exact hnm)⟩
                  obtain ⟨⟨b, off, rfl, c0⟩, hCs⟩ := HC.out n x hx
                  have hsum := sumL_take C n x hx
                  obtain ⟨ca, cc, cl⟩ := x
                  dsimp only at c0 hCs hsum
                  have CS := hid0 hCs
                  have C0 : Hid (∀ V, Below w.heap.size w V → V.cell? ⟨b, off + n, none⟩ = some (.slice ca cl.length cc)) := fun V h => below_cell c0 h
                  have HS := hid0 hsum
                  have hbig2 : cl.length ≤ 1048576 := by
                    have h1 := sumL_le C (n + 1)
                    have h2 := HB.out
                    omega
                  clear hCs hx c0 hsum
                  generalize hK : cl.length = K at *
                  have HK := hid0 hK
                  clear hK
                  go_wp2
                  go_loopg [11, 16] K (fun kx s11 s16 wy => ∃ (v : Value) (L : List En) (gone P' : List Int) (k : Nat), s16 = .int .i64 (k : Int) ∧ k ≤ K ∧ kx = K - k ∧ Hid (TwW w wy t v L sv' (told ++ [id]) s11 gone) ∧ Hid (WkI ids P' (told ++ [id]) gone L) ∧ P'.length ≤ i + sumL (C.take n) + k ∧ gone.length ≤ sumL (C.take n) + k)
                  case atStart => exact ⟨v, L, gone, P, 0, rfl, Nat.zero_le _, rfl, TB, WT, by omega, by omega⟩
                  case round =>
                    clear TB WT WI
                    obtain ⟨v, L, gone, P', k, rfl, hk, rfl, TY, WY, hP', hG'⟩ := hrel
                    obtain ⟨wy, hwy⟩ : ∃ W, W = wr := ⟨_, rfl⟩
                    subst hwy
                    have d0 := C0.out wy TY.out.bel
                    by_cases hkK : k < K
                    · have hkK' : (k : Int) < (K : Int) := by omega
                      obtain ⟨y, hy⟩ : ∃ y, cl[k]? = some y := ⟨_, List.getElem?_eq_getElem (by rw [HK.out]; exact hkK)⟩
                      obtain ⟨yi, yo⟩ := y
                      obtain ⟨bc, oc, rfl, e0, e1⟩ := (CS.out.below TY.out.bel) k _ hy
                      dsimp only at e0 e1
                      have gC := (Gr.refl wy).alloc (.cells #[.int .u32 yi, .bool yo] 65)
                      have kQ : Bk (wy.alloc (.cells #[.int .u32 yi, .bool yo] 65)) wy.heap.size 65 [.int .u32 yi, .bool yo] := Bk.new wy 65 _
                      have TC := hid0 (TY.out.gr gC)
                      have hbw := TY.out.size
                      clear hy TY gC
                      go_upto_region 26 with fail
                      generalize wy.heap.size = bq at *
                      generalize wy.alloc _ = wc at *
                      have q0 := kQ.at 0
                      have q1 := kQ.at 1
                      simp only [List.getElem?_cons_zero, List.getElem?_cons_succ] at q0 q1
                      clear d0 e0 e1
                      cases yo with
                      | true =>
                        have DL := hid0 (del_w TC.out.tab TC.out.size yi)
                        go_wp2_with fail
                        refine DL.out.mono ?_
                        rintro e w6 ⟨r6, v6, L6, rfl, hT6, hC6, -, hN1, hN2⟩
                        have T6 := hid0 (TC.out.turn hT6 hC6)
                        have W6 := hid0 (WY.out.del hN1 hN2)
                        have nq : ¬ tP t v bq := fun e => by
                          rcases e with e | e
                          · subst e
                            have := bk_ty kQ TC.out.tab.blk
                            cases this
                          · obtain ⟨_, _, cur, kc⟩ := TC.out.tab.sl.lt e
                            have := bk_ty kQ kc
                            cases this
                        have kQ6 := kQ.chg hC6 nq
                        have p0 := kQ6.at 0
                        simp only [List.getElem?_cons_zero] at p0
                        clear DL hT6 hC6 hN1 hN2 nq kQ q0 q1 TC WY
                        obtain ⟨ag, cg, rfl, -⟩ := T6.out.gone.us
                        have OG : Hid (w6.ownsRow w.heap.size 39 1 (.slice ag gone.length cg) gone.length (gone.map uV)) := T6.out.gone
                        have hsz6 := T6.out.size
                        have hgA : gone.length + 1 ≤ 1048577 := by
                          have h1 := sumL_le C n
                          have h2 := HB.out
                          have h3 := sumL_le C (n + 1)
                          have h4 := HS.out
                          have h5 := HK.out
                          omega
                        generalize hgn : gone.length = gn at *
                        have HGN := hid0 hgn
                        clear hgn kQ6
                        go_upto_region 28 with fail
                        go_wp2_with (at_builtin; refine wpList_append_own_at _ rfl (.tmp 126) (.tmp 129) 56 rfl w.heap.size 39 i0 (.int .u32 0) 1 4 Tryd.underlying56 hi0 hz0 hz1 hz2 rfl (by decide) _ _ _ rfl (OG.out.alloc _) ⟨w6.heap.size, 0, none⟩ 1 1 [.int .u32 yi] rfl rfl (by intro j u hj; match j, hj with | 0, hj => (simp at hj; subst hj; simp [Addr.add])) (fun u hu => by simp at hu; subst hu; rfl) (by unfold maxLen; omega) (by omega) (by simp; omega) ?_)
                        intro gv' w7 hown' hgrow _ hat
                        have gB := (Gr.refl w6).alloc (.cells #[.int .u32 yi] 39)
                        have hO : OwnU w7 w.heap.size gv' (gone ++ [yi]) := by
                          unfold OwnU
                          rw [List.length_append, HGN.out, List.map_append]
                          exact hown'
                        have T7 := hid0 ((T6.out.gr gB).went hgrow hO (by
                          rcases hat with h | h
                          · exact .inl h
                          · exact .inr ⟨_, h, by simp⟩))
                        clear hown' hgrow hat hO OG T6 gB p0
                        go_wp2
                        go_roundg (K - (k + 1))
                        case measure => omega
                        case rel => exact ⟨_, _, gone ++ [yi], P', k + 1, by simp, by omega, rfl, T7, W6, by omega, by rw [List.length_append, HGN.out]; simp; omega⟩
                      | false =>
                        have PU : Hid (∀ n V, Gr wc V → Calls Tryd.prog 15 #[pT t, .int .u32 yi, vV n] V (PutW w.heap.size t 65536 v L yi V)) := fun n V g => put_w (TC.out.tab.gr g) (Nat.le_trans TC.out.size g.size) yi n
                        have gs : Gr wc wc.drew := (Gr.refl wc).drew
                        have ec : wc.drew.cell? ⟨bq, 0, none⟩ = some (.int .u32 yi) := q0
                        have kD := hid0 (kQ.gr gs)
                        go_upto_region 29 with fail
                        clear q0
                        go_region_held3 (fun V => V.cell? ⟨bq, 0, none⟩ = some (.int .u32 yi))
                          (first
                            | assumption
                            | exact ec)
                          (first
                            | (go_at_call 15; refine (PU.out _ _ s1).mono ?_; rintro e v2 ⟨r2, v', L', rfl, hT2, hC2, -, hP1, hP2, hP3, -⟩; have e2 : v2.cell? ⟨bq, 0, none⟩ = some (.int .u32 yi) := ((kQ.gr s1).chg hC2 (fun e => by
                                rcases e with e | e
                                · subst e
                                  have := bk_ty kQ TC.out.tab.blk
                                  cases this
                                · obtain ⟨_, _, cur, kc⟩ := TC.out.tab.sl.lt e
                                  have := bk_ty kQ kc
                                  cases this)).at 0; have T6 := hid0 ((TC.out.gr s1).turn hT2 hC2); have W6 := hid0 (WY.out.put hP1 hP2); clear hT2 hC2 hP1 hP2 hP3)
                            | (go_at_call 16; refine (of_any _ _).mono ?_; rintro e v1 ⟨rfl, g1⟩; have s1 : Gr wc v1 := gs.trans g1; have e1 : v1.cell? ⟨bq, 0, none⟩ = some (.int .u32 yi) := (kQ.gr s1).at 0))
                        clear PU gs ec kD s1 e1 e2 kQ q1 TC WY
                        go_wp2
                        go_roundg (K - (k + 1))
                        case measure => omega
                        case rel => exact ⟨_, _, gone, _, k + 1, by simp, by omega, rfl, T6, W6, by rw [List.length_append]; simp; omega, by omega⟩
                    · have hkK' : ¬ (k : Int) < (K : Int) := by omega
                      obtain rfl : k = K := by omega
                      have NR : Hid ((told ++ [id]).Pairwise (· < ·)) := WY.out.rise
                      have ND := hid0 (next_w TY.out.tab told id NR.out)
                      clear NR
                      go_wp2_with fail
                      refine ND.out.mono ?_
                      rintro e w5 ⟨id', n5, ok', rfl, hNx, hG5⟩
                      have T5 := hid0 (TY.out.gr hG5)
                      have NX5 := hid0 hNx
                      clear ND hNx hG5 TY
                      go_wp2
                      go_roundg (A - (n + 1))
                      case measure => omega
                      case rel => exact ⟨_, _, told ++ [id], _, id', ok', _, n + 1, rfl, rfl, by simp, T5, WY, NX5, hid0 (by rw [List.length_append, hln.out]; rfl), by rw [HS.out]; show P'.length ≤ _; have := HK.out; omega, by rw [HS.out]; show gone.length ≤ _; have := HK.out; omega, rfl⟩
                · have hnm' : ¬ (n : Int) < (j : Int) := by omega
                  have hst : sumL (C.take n) = sumL (C.take (n + 1)) := by rw [List.take_of_length_le (by rw [HM.out]; omega), List.take_of_length_le (by rw [HM.out]; omega)]
                  have NR : Hid ((told ++ [id]).Pairwise (· < ·)) := WT.out.rise
                  have ND := hid0 (next_w TB.out.tab told id NR.out)
                  have hP2 : P.length ≤ i + sumL (C.take (n + 1)) := by omega
                  have hG2 : gone.length ≤ sumL (C.take (n + 1)) := by omega
                  clear NR hst
                  go_wp2_with fail
                  refine ND.out.mono ?_
                  rintro e w5 ⟨id', n5, ok', rfl, hNx, hG5⟩
                  have T5 := hid0 (TB.out.gr hG5)
                  have NX5 := hid0 hNx
                  clear ND hNx hG5 TB
                  go_wp2
                  go_roundg (A - (n + 1))
                  case measure => omega
                  case rel => exact ⟨_, _, told ++ [id], _, id', ok', _, n + 1, rfl, rfl, by simp, T5, WT, NX5, hid0 (by rw [List.length_append, hln.out]; rfl), hP2, hG2, rfl⟩
            | false =>
              obtain ⟨ao, cap, rfl, hU⟩ := TA.out.told.us
              obtain ⟨ag, cg, rfl, hV⟩ := TA.out.gone.us
              have FN : Hid (∀ x ∈ ids, x ∈ told ∨ x ∈ gone) := fun x hx => WI.out.fin NX.out x hx
              have hsl := sumL_le C n
              have hHB := HB.out
              have IT : Hid (∀ x, Calls Tryd.prog 19 #[.slice ao told.length cap, .int .u32 x] wx fun e w' => e = .returned (.bool (decide (x ∈ told))) ∧ w' = wx) := fun x => in_any ao cap told x wx hU (by
                have h1 := rise_len told P WI.out.rise WI.out.inP
                omega)
              have IG : Hid (∀ x, Calls Tryd.prog 19 #[.slice ag gone.length cg, .int .u32 x] wx fun e w' => e = .returned (.bool (decide (x ∈ gone))) ∧ w' = wx) := fun x => in_any ag cg gone x wx hV (by omega)
              have LI := hid0 (lives_any wx (HT.out.below TA.out.bel))
              have BE := hid0 TA.out.bel
              clear TA WI NX hln hP hgl hU hV hsl hHB
              generalize told.length = nt at *
              generalize gone.length = ng at *
              go_wp2
              go_loopg [18] i (fun kx s18 wy => ∃ q : Nat, s18 = .int .i64 (q : Int) ∧ q ≤ i ∧ kx = i - q ∧ wy = wx)
              case atStart => exact ⟨0, rfl, Nat.zero_le _, rfl, rfl⟩
              case round =>
                obtain ⟨q, rfl, hq, rfl, hwy⟩ := hrel
                have hwy' := hwy.symm
                subst hwy'
                by_cases hqi : q < i
                · have hqi' : (q : Int) < (i : Int) := by omega
                  obtain ⟨x, hx⟩ : ∃ x, ids[q]? = some x := ⟨_, List.getElem?_eq_getElem (by rw [HN.out]; exact hqi)⟩
                  obtain ⟨b, off, rfl, c0⟩ := (HI.out.below BE.out) q x hx
                  have hf := FN.out x (List.mem_of_getElem? hx)
                  have I1 := hid0 (IT.out x)
                  have I2 := hid0 (IG.out x)
                  clear hx
                  by_cases hxt : x ∈ told
                  · rw [decide_eq_true hxt] at I1
                    clear hf hxt I2 IT IG FN LI
                    go_wp2_with (go_at_call 19; refine I1.out.mono ?_; rintro e w5 ⟨rfl, hw⟩; cases hw)
                    go_roundg (i - (q + 1))
                    case measure => omega
                    case rel => exact ⟨q + 1, by simp, by omega, rfl, rfl⟩
                  · rw [decide_eq_false hxt] at I1
                    rw [decide_eq_true (hf.resolve_left hxt)] at I2
                    clear hf hxt IT IG FN LI
                    go_wp2_with (first | (go_at_call 19; refine I1.out.mono ?_; rintro e w5 ⟨rfl, hw⟩; cases hw; clear I1) | (go_at_call 19; refine I2.out.mono ?_; rintro e w5 ⟨rfl, hw⟩; cases hw))
                    go_roundg (i - (q + 1))
                    case measure => omega
                    case rel => exact ⟨q + 1, by simp, by omega, rfl, rfl⟩
                · have hqi' : ¬ (q : Int) < (i : Int) := by omega
                  clear IT IG FN
                  go_wp2_with fail
                  refine LI.out.mono ?_
                  rintro e w5 ⟨rfl, hB5⟩
                  have B5 := hid0 (BE.out.trans (hB5.mono BE.out.size))
                  clear hB5 LI BE
                  go_wp2
                  go_ret
                  exact ⟨rfl, B5.out⟩
end Go.Proofs.YtjnjpjpgokdciaaDoor
