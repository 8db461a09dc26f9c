/- Contracts of the program's reading and writing of degrees. -/
import Derived.Test.YtmkechhjgdanmaaGreatDoorDegP
import Derived.Test.YtmkechhjgdanmaaGreatDoorBase
namespace Go.Proofs.YtmkechhjgdanmaaGreatDoor
open Go.RowKit Go.Sort Go.Lib

/-- The sign at a place of a text. -/
def bt (l : List UInt8) (k : Nat) : Int := ((l[k]?).getD 0).toNat
theorem bt_get {l : List UInt8} {k : Nat} (h : k < l.length) : bt l k = (l[k].toNat : Int) := by unfold bt; rw [List.getElem?_eq_getElem h]; rfl
theorem run_bt (l : List UInt8) (k : Nat) (h : k < l.length) (w : World) : (Instr.index 9 (.string ⟨l.toArray⟩) (.int .i64 (k : Int))).run Tryz.prog w = .ok (.int .u8 (bt l k)) w := by
  have hs : (⟨l.toArray⟩ : ByteArray).size = l.length := by simp [ByteArray.size]
  rw [run_index_string w 9 ⟨l.toArray⟩ .i64 k (by kernel_rfl), dif_pos (by omega), bt_get h]
  rfl
theorem bt_bd (l : List UInt8) (k : Nat) : 0 ≤ bt l k ∧ bt l k ≤ 255 := by
  unfold bt
  have := (l[k]?.getD 0).toNat_lt
  omega
theorem dg_bt {l : List UInt8} {k : Nat} (h : k < l.length) : isDg l[k] = decide (48 ≤ bt l k ∧ bt l k ≤ 57) := by
  rw [bt_get h]
  show decide (48 ≤ l[k].toNat ∧ l[k].toNat ≤ 57) = _
  congr 1
  exact propext ⟨fun h => by omega, fun h => by omega⟩
theorem take_dv {l : List UInt8} {k : Nat} (h : k < l.length) (hd : 48 ≤ bt l k) : (dval 0 (l.take (k + 1)) : Int) = (dval 0 (l.take k) : Int) * 10 + (bt l k - 48) := by
  rw [List.take_add_one, List.getElem?_eq_getElem h, dval_app]
  show (dval (dval 0 (l.take k)) [l[k]] : Int) = _
  rw [dval_cons, dval_nil]
  rw [bt_get h] at hd ⊢
  omega
theorem take_dv_le (l : List UInt8) (k : Nat) : dval 0 (l.take k) ≤ dval 0 l := by
  have h := dval_app (l.take k) (l.drop k) 0
  rw [List.take_append_drop] at h
  rw [h]
  exact dval_ge _ _
set_option maxRecDepth 20000 in
set_option maxHeartbeats 1600000 in
theorem mof_any (l : List UInt8) (w : World) (hl : l.length ≤ 1000) (hd : ∀ c ∈ l, isDg c = true) :
    Calls Tryz.prog 58 #[.string ⟨l.toArray⟩] w fun e w' => e = .returned (.tuple #[.int .i32 (if 180000000 < dval 0 l then 0 else (dval 0 l : Nat)), .bool (!decide (180000000 < dval 0 l))]) ∧ w' = w := by
  have hsz : (⟨l.toArray⟩ : ByteArray).size = l.length := by simp [ByteArray.size]
  have HD : Hid (∀ k, k < l.length → 48 ≤ bt l k ∧ bt l k ≤ 57) := fun k hk => by
    have := hd l[k] (List.getElem_mem hk)
    rw [dg_bt hk] at this
    exact of_decide_eq_true this
  have HY : Hid (180000000 < dval 0 l → Value.tuple #[.int .i32 (if 180000000 < dval 0 l then 0 else (dval 0 l : Nat)), .bool (!decide (180000000 < dval 0 l))] = .tuple #[.int .i32 0, .bool false]) := fun h => by
    rw [if_pos h, decide_eq_true h]; rfl
  have HN : Hid (¬ 180000000 < dval 0 l → Value.tuple #[.int .i32 (if 180000000 < dval 0 l then 0 else (dval 0 l : Nat)), .bool (!decide (180000000 < dval 0 l))] = .tuple #[.int .i32 (dval 0 l : Nat), .bool true]) := fun h => by
    rw [if_neg h, decide_eq_false h]; rfl
  generalize Value.tuple #[.int .i32 (if 180000000 < dval 0 l then 0 else (dval 0 l : Nat)), .bool (!decide (180000000 < dval 0 l))] = V at *
  clear hd
  go_enter Tryz.func58, Tryz.ntmps58
  go_wp2
  go_loop [4, 8] (fun n i => ∃ k v : Nat, k ≤ l.length ∧ Hid (dval 0 (l.take k) = v) ∧ v ≤ 180000000 ∧ n = .int .i64 (v : Int) ∧ i = .int .i64 (k : Int)) (fun _ i => l.length - (RowKit.intOf i).toNat)
  case atStart => exact ⟨0, 0, by omega, rfl, by omega, rfl, rfl⟩
  case round =>
    obtain ⟨k, v, hk, hv, hv1, rfl, rfl⟩ := hrel
    by_cases hlt : k < l.length
    · have hb := HD.out k hlt
      have r1 := run_bt l k hlt
      have e1 : IntKind.u8.wrap (bt l k - 48) = bt l k - 48 := by rw [IntKind.wrap_u8]; omega
      have hdv := take_dv hlt hb.1
      rw [hv.out] at hdv
      have HV := hid' hdv
      have HL := hid' (take_dv_le l (k + 1))
      clear hdv
      generalize bt l k = b at *
      by_cases hbig : 180000000 < (v : Int) * 10 + (b - 48)
      · have HY2 : Hid (V = .tuple #[.int .i32 0, .bool false]) := HY.out (by have := HV.out; have := HL.out; omega)
        go_wp2
        go_ret2
        exact ⟨by rw [HY2.out]; rfl, rfl⟩
      · go_wp2
        go_round
        case rel => exact ⟨k + 1, (dval 0 (l.take (k + 1))), by omega, rfl, by have := HV.out; omega, by rw [HV.out], by go_num⟩
        case measure => simp [RowKit.intOf]; omega
    · have HV : Hid (dval 0 l = v) := by
        show dval 0 l = v
        rw [← hv.out, List.take_of_length_le (by omega)]
      have HN2 : Hid (V = .tuple #[.int .i32 (v : Int), .bool true]) := by
        have := HN.out (by rw [HV.out]; omega)
        rw [HV.out] at this
        exact this
      go_wp2
      go_ret2
      exact ⟨by rw [HN2.out]; rfl, rfl⟩
theorem drewB {W w' : World} (h : RowKit.Below W.drew.heap.size W.drew w') : RowKit.Below W.heap.size W w' := ⟨h.os, h.tape, h.output, h.size, h.block⟩
abbrev S2 (a0 a1 : Addr) (x0 x1 : Value) (W : World) (w : World) : Prop := w.cell? a0 = some x0 ∧ w.cell? a1 = some x1 ∧ RowKit.Below W.heap.size W w
theorem S2.call {a0 a1 : Addr} {x0 x1 : Value} {W w w' : World} (h : S2 a0 a1 x0 x1 W w) (g : RowKit.Below w.heap.size w w') : S2 a0 a1 x0 x1 W w' :=
  ⟨below_cell h.1 g, below_cell h.2.1 g, h.2.2.trans (g.mono h.2.2.size)⟩
theorem rep_any (k : Nat) (hk : k ≤ 6) (w : World) : Calls Tryz.prog 59 #[.string ⟨#[48]⟩, .int .i64 (k : Int)] w fun e w' => e = .returned (.string ⟨(List.replicate k 48).toArray⟩) ∧ RowKit.Below w.heap.size w w' := by
  have h := Tryz.strings_Repeat ⟨#[48]⟩ k w (by omega) (by show 1 * k ≤ _; omega)
  have e : Lib.repeatL (⟨#[48]⟩ : ByteArray).data.toList k = List.replicate k 48 := by
    have := Lib.repeatL_replicate 48 1 k
    rw [Nat.mul_one] at this
    exact this
  rw [e] at h
  exact h
/-- What is answered of a text. -/
def micV (l : List UInt8) : Value := .tuple #[.int .i32 (microV l).1, .int .i64 (microV l).2]
theorem cat_str (a b : List UInt8) : (⟨a.toArray⟩ : ByteArray) ++ ⟨b.toArray⟩ = ⟨(a ++ b).toArray⟩ := by
  apply ByteArray.ext
  rw [ByteArray.data_append]
  simp
def V0 (a b : List UInt8) (mi : Bool) : Value := if 180000000 < mval a b then .tuple #[.int .i32 0, .int .i64 21] else .tuple #[.int .i32 (if mi then -(mval a b : Int) else (mval a b : Int)), .int .i64 0]
set_option maxRecDepth 20000 in
set_option maxHeartbeats 3200000 in
theorem micro_any (l : List UInt8) (hl : l.length ≤ 281474976710656) (w : World) :
    Calls Tryz.prog 38 #[.string ⟨l.toArray⟩] w fun e w' => e = .returned (micV l) ∧ RowKit.Below w.heap.size w w' := by
  have hsz : (⟨l.toArray⟩ : ByteArray).size = l.length := by simp [ByteArray.size]
  by_cases h64 : 64 < l.length
  · have HV : Hid (micV l = .tuple #[.int .i32 0, .int .i64 4]) := by
      show micV l = _
      unfold micV microV; rw [if_pos h64]
    generalize micV l = V at *
    go_enter Tryz.func38, Tryz.ntmps38
    go_wp2
    go_ret2
    exact ⟨by rw [HV.out]; rfl, RowKit.Below.refl _ _⟩
  · have HC := fun w => cut_any l hl w
    cases hc : cutP l with
    | none =>
      rw [hc] at HC
      have H : Hid (∀ w, Calls Tryz.prog 57 #[.string ⟨l.toArray⟩] w fun e w' => e = .returned (.tuple #[.agg #[.bool false, .string ⟨#[]⟩, .string ⟨#[]⟩], .string ⟨#[]⟩, .bool false]) ∧ RowKit.Below w.heap.size w w') := HC
      have HV : Hid (micV l = .tuple #[.int .i32 0, .int .i64 22]) := by
        show micV l = _
        unfold micV microV; rw [if_neg h64, hc]
      generalize micV l = V at *
      clear HC hc
      go_enter Tryz.func38, Tryz.ntmps38
      go_wp2_with (go_at_call 57; refine (H.out _).mono ?_; rintro e w1 ⟨rfl, l1⟩)
      go_ret2
      exact ⟨by rw [HV.out]; rfl, l1.trans ((((Gr.refl w1).alloc _).below).mono l1.size)⟩
    | some p =>
      obtain ⟨a, b, r⟩ := p
      rw [hc] at HC
      have H : Hid (∀ w, Calls Tryz.prog 57 #[.string ⟨l.toArray⟩] w fun e w' => e = .returned (.tuple #[.agg #[.bool (minus l), .string ⟨a.toArray⟩, .string ⟨b.toArray⟩], .string ⟨r.toArray⟩, .bool true]) ∧ RowKit.Below w.heap.size w w') := HC
      have hM : microV l = if r ≠ [] ∨ 6 < b.length then (0, 22) else if 180000000 < mval a b then (0, 21) else (if minus l then -(mval a b : Int) else (mval a b : Int), 0) := by
        unfold microV; rw [if_neg h64, hc]
      obtain ⟨da, db, la, lb⟩ := cut_digs hc
      generalize minus l = mi at *
      cases r with
      | cons c r =>
        have HV : Hid (micV l = .tuple #[.int .i32 0, .int .i64 22]) := by
          show micV l = _
          unfold micV; rw [hM, if_pos (.inl (by simp))]
        generalize micV l = V at *
        clear HC hc hM da db
        go_enter Tryz.func38, Tryz.ntmps38
        go_wp2_with (go_at_call 57; refine (H.out _).mono ?_; rintro e w1 ⟨rfl, l1⟩)
        go_ret2
        exact ⟨by rw [HV.out]; rfl, l1.trans ((((Gr.refl w1).alloc _).below).mono l1.size)⟩
      | nil =>
        by_cases h6 : 6 < b.length
        · have HV : Hid (micV l = .tuple #[.int .i32 0, .int .i64 22]) := by
            show micV l = _
            unfold micV; rw [hM, if_pos (.inr h6)]
          have hbz : (⟨b.toArray⟩ : ByteArray).size = b.length := by simp [ByteArray.size]
          generalize micV l = V at *
          clear HC hc hM da db
          go_enter Tryz.func38, Tryz.ntmps38
          go_wp2_with (go_at_call 57; refine (H.out _).mono ?_; rintro e w1 ⟨rfl, l1⟩)
          go_ret2
          exact ⟨by rw [HV.out]; rfl, l1.trans ((((Gr.refl w1).alloc _).below).mono l1.size)⟩
        · have HV : Hid (micV l = if 180000000 < mval a b then .tuple #[.int .i32 0, .int .i64 21] else .tuple #[.int .i32 (if mi then -(mval a b : Int) else (mval a b : Int)), .int .i64 0]) := by
            show micV l = _
            unfold micV; rw [hM, if_neg (by simp; omega)]
            split <;> rfl
          have HR : Hid (∀ w, Calls Tryz.prog 59 #[.string ⟨#[48]⟩, .int .i64 (IntKind.i64.wrap (6 - (b.length : Int)))] w fun e w' => e = .returned (.string ⟨(List.replicate (6 - b.length) 48).toArray⟩) ∧ RowKit.Below w.heap.size w w') := fun w => by
            have := rep_any (6 - b.length) (by omega) w
            rw [show ((6 - b.length : Nat) : Int) = IntKind.i64.wrap (6 - (b.length : Int)) from by rw [IntKind.wrap_i64]; omega] at this
            exact this
          have HM : Hid (∀ w, Calls Tryz.prog 58 #[.string ⟨(a ++ (b ++ List.replicate (6 - b.length) 48)).toArray⟩] w fun e w' => e = .returned (.tuple #[.int .i32 (if 180000000 < mval a b then 0 else (mval a b : Nat)), .bool (!decide (180000000 < mval a b))]) ∧ w' = w) := fun w => by
            rw [← List.append_assoc]
            exact mof_any _ w (by simp; omega) (fun c hc => by
            rcases List.mem_append.1 hc with hc | hc
            · rcases List.mem_append.1 hc with hc | hc
              · exact da c hc
              · exact db c hc
            · rw [(List.mem_replicate.1 hc).2]; decide)
          have R1 := fun w => run_string_add_lists (P := Tryz.prog) w a b (by omega) (by omega)
          have R2 := fun w => run_string_add_lists (P := Tryz.prog) w (a ++ b) (List.replicate (6 - b.length) 48) (by simp; omega) (by simp; omega)
          have hbz : (⟨b.toArray⟩ : ByteArray).size = b.length := by simp [ByteArray.size]
          have HN : Hid (∃ (N : Int) (B : Bool), (∀ w, Calls Tryz.prog 58 #[.string ⟨(a ++ (b ++ List.replicate (6 - b.length) 48)).toArray⟩] w fun e w' => e = .returned (.tuple #[.int .i32 N, .bool B]) ∧ w' = w) ∧ ((B = false ∧ V0 a b mi = .tuple #[.int .i32 0, .int .i64 21]) ∨ (B = true ∧ 0 ≤ N ∧ N ≤ 180000000 ∧ V0 a b mi = .tuple #[.int .i32 (if mi then -N else N), .int .i64 0]))) := by
            by_cases hbig : 180000000 < mval a b
            · refine ⟨0, false, fun w => ?_, .inl ⟨rfl, by unfold V0; rw [if_pos hbig]⟩⟩
              have := HM.out w
              rw [if_pos hbig, decide_eq_true hbig] at this
              exact this
            · refine ⟨(mval a b : Nat), true, fun w => ?_, .inr ⟨rfl, by omega, by omega, by unfold V0; rw [if_neg hbig]⟩⟩
              have := HM.out w
              rw [if_neg hbig, decide_eq_false hbig] at this
              exact this
          have HV2 : Hid (micV l = V0 a b mi) := HV.out
          obtain ⟨N, B, hN, hB⟩ := HN.out
          replace HM := hid' hN
          have HB2 := hid' hB
          clear hN hB HN HV
          generalize V0 a b mi = V1 at *
          generalize micV l = V at *
          generalize List.replicate (6 - b.length) (48 : UInt8) = Z at *
          clear HC hc hM da db
          go_enter Tryz.func38, Tryz.ntmps38
          go_upto_region 4 with (go_at_call 57; refine (H.out _).mono ?_; rintro e w1 ⟨rfl, l1⟩)
          have kX := T3.new w1 72 (.bool mi) (.string ⟨a.toArray⟩) (.string ⟨b.toArray⟩)
          have HB := hid' (l1.trans ((((Gr.refl w1).alloc (.cells #[.bool mi, .string ⟨a.toArray⟩, .string ⟨b.toArray⟩] 72)).below).mono l1.size))
          generalize w1.alloc (.cells #[.bool mi, .string ⟨a.toArray⟩, .string ⟨b.toArray⟩] 72) = W at *
          generalize w1.heap.size = X at *
          have x1 := kX.c1
          have x2 := kX.c2
          have KX := hid' kX
          clear kX l1
          go_upto_region 6 with fail
          have hS0 : Hid (S2 ⟨X, 1, none⟩ ⟨X, 2, none⟩ (.string ⟨a.toArray⟩) (.string ⟨b.toArray⟩) W W.drew) := ⟨x1, x2, (RowKit.Below.refl _ _).drew⟩
          go_region_held3 (S2 ⟨X, 1, none⟩ ⟨X, 2, none⟩ (.string ⟨a.toArray⟩) (.string ⟨b.toArray⟩) W)
            (first | assumption | with_reducible exact hS0.out | exact S2.call (by assumption) (by assumption))
            (first
              | (go_at_call 59; refine (HR.out _).mono ?_; rintro e w2 ⟨rfl, hb2⟩)
              | (go_at_call 58; refine (HM.out _).mono ?_; rintro e w3 ⟨rfl, rfl⟩))
          have hbW := drewB hb2
          have x0 := (KX.out.mono hbW KX.out.lt).c0
          have HG := hid' (HB.out.trans (hbW.mono HB.out.size))
          clear hb2 x1 x2 hbW hS0
          rcases HB2.out with ⟨rfl, e0⟩ | ⟨rfl, n1, n2, e0⟩
          · have HE := hid' (HV2.out.trans e0)
            clear e0
            go_wp2
            go_ret2
            exact ⟨by rw [HE.out]; rfl, HG.out⟩
          · have HE := hid' (HV2.out.trans e0)
            clear e0
            cases mi with
            | true =>
              go_wp2
              go_ret2
              exact ⟨by rw [HE.out]; rfl, HG.out⟩
            | false =>
              go_wp2
              go_ret2
              exact ⟨by rw [HE.out]; rfl, HG.out⟩
end Go.Proofs.YtmkechhjgdanmaaGreatDoor
