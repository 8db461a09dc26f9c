/- Contracts of the program's cutting of texts: the digits at a head, a number in digits. -/
import Derived.Test.YtmkechhjgdanmaaGreatDoorBase
import Derived.Test.YtmkechhjgdanmaaGreatDoorShelf
import Derived.Shelf.Strings.SlTrimAscii
namespace Go.Proofs.YtmkechhjgdanmaaGreatDoor
open Go.Shelf Go.RowKit Go.Sort Go.Lib

abbrev isDg (c : UInt8) : Bool := decide (48 ≤ c.toNat ∧ c.toNat ≤ 57)
def digs (l : List UInt8) : List UInt8 := l.takeWhile isDg
def rest (l : List UInt8) : List UInt8 := l.dropWhile isDg
theorem digs_rest (l : List UInt8) : digs l ++ rest l = l := List.takeWhile_append_dropWhile
theorem cont_dg (c : UInt8) : ([48, 49, 50, 51, 52, 53, 54, 55, 56, 57] : List UInt8).contains c = isDg c := by
  have h : ∀ n : Fin 256, ([48, 49, 50, 51, 52, 53, 54, 55, 56, 57] : List UInt8).contains (UInt8.ofNat n.1) = isDg (UInt8.ofNat n.1) := by decide +kernel
  have := h ⟨c.toNat, c.toNat_lt⟩
  simpa using this
theorem trim_rest (l : List UInt8) : Lib.trimLeftS l [48, 49, 50, 51, 52, 53, 54, 55, 56, 57] = rest l := by
  unfold Lib.trimLeftS rest
  congr 1
  funext c
  exact cont_dg c
theorem trim_any (l : List UInt8) (w : World) : Calls Tryz.prog 90 #[.string ⟨l.toArray⟩, .string ⟨#[48, 49, 50, 51, 52, 53, 54, 55, 56, 57]⟩] w fun e w' => e = .returned (.string ⟨(rest l).toArray⟩) ∧ Below w.heap.size w w' := by
  have h := Any.strings_TrimLeft_laid Tryz.lays161 (by kernel_rfl) ⟨l.toArray⟩ ⟨#[48, 49, 50, 51, 52, 53, 54, 55, 56, 57]⟩ w (by decide) (ascii_of_all (by decide))
  have e : Lib.trimLeftS (⟨l.toArray⟩ : ByteArray).data.toList (⟨#[48, 49, 50, 51, 52, 53, 54, 55, 56, 57]⟩ : ByteArray).data.toList = rest l := trim_rest l
  rw [e] at h
  exact h
theorem len_dr (l : List UInt8) : (digs l).length + (rest l).length = l.length := by
  have := congrArg List.length (digs_rest l)
  simpa using this
theorem extract_take (l : List UInt8) (k : Nat) : (⟨l.toArray⟩ : ByteArray).extract 0 k = ⟨(l.take k).toArray⟩ := by
  have h : ((⟨l.toArray⟩ : ByteArray).extract 0 k).data = (l.take k).toArray := by
    rw [ByteArray.data_extract]
    simp
  exact ByteArray.ext h
theorem take_digs (l : List UInt8) : l.take (digs l).length = digs l := by
  have h := digs_rest l
  have : (digs l ++ rest l).take (digs l).length = digs l := by simp
  rw [h] at this
  exact this
set_option maxRecDepth 20000 in
set_option maxHeartbeats 1600000 in
theorem cutd_any (l : List UInt8) (hl : l.length ≤ 281474976710656) (w : World) : Calls Tryz.prog 70 #[.string ⟨l.toArray⟩] w fun e w' => e = .returned (.tuple #[.string ⟨(digs l).toArray⟩, .string ⟨(rest l).toArray⟩]) ∧ Below w.heap.size w w' := by
  have hd := len_dr l
  have E : Hid ((⟨l.toArray⟩ : ByteArray).extract 0 (digs l).length = ⟨(digs l).toArray⟩) := by
    show _ = _
    rw [extract_take, take_digs]
  have H := hid' (fun w => trim_any l w)
  generalize digs l = D at *
  generalize rest l = R at *
  have e1 : wrap64 ((l.length : Int) - (R.length : Int)) = (D.length : Int) := by unfold wrap64; omega
  have e2 : (D.length : Int) ≤ (l.length : Int) := by omega
  have e3 : (0 : Int) ≤ (D.length : Int) := by omega
  clear hd hl
  go_enter Tryz.func70, Tryz.ntmps70
  go_wp2_with (go_at_call 90; refine (H.out _).mono ?_; rintro e w' ⟨rfl, l1⟩)
  go_ret2
  refine ⟨?_, l1⟩
  rw [E.out]
  rfl
/-- A number in digits: whether there is a sign, the digits ahead of the point and those behind it, and what is left; none where there is no such number at the head. -/
def minus (l : List UInt8) : Bool := match l with
  | 45 :: _ => true
  | _ => false
def unsign (l : List UInt8) : List UInt8 := match l with
  | 45 :: t => t
  | _ => l
def unpoint (l : List UInt8) : Option (List UInt8) := match l with
  | 46 :: t => some t
  | _ => none
def cutP (l : List UInt8) : Option (List UInt8 × List UInt8 × List UInt8) :=
  if digs (unsign l) = [] then none
  else match unpoint (rest (unsign l)) with
    | none => some (digs (unsign l), [], rest (unsign l))
    | some t => if digs t = [] then none else some (digs (unsign l), digs t, rest t)
theorem pre_minus (l : List UInt8) : Lib.trimPrefix l [45] = unsign l ∧ Lib.hasPrefix l [45] = minus l := by
  unfold Lib.trimPrefix Lib.hasPrefix
  cases l with
  | nil => exact ⟨rfl, rfl⟩
  | cons c t =>
    by_cases h : c = 45
    · subst h; exact ⟨rfl, rfl⟩
    · have h1 : ([45] : List UInt8).isPrefixOf (c :: t) = false := by
        simp [List.isPrefixOf]; exact fun e => h e.symm
      have h2 : minus (c :: t) = false := by unfold minus; split <;> simp_all
      have h3 : unsign (c :: t) = c :: t := by unfold unsign; split <;> simp_all
      rw [h1, h2, h3]; exact ⟨rfl, rfl⟩
theorem pre_point (l : List UInt8) : (∀ t, unpoint l = some t → Lib.trimPrefix l [46] = t ∧ Lib.hasPrefix l [46] = true) ∧ (unpoint l = none → Lib.trimPrefix l [46] = l ∧ Lib.hasPrefix l [46] = false) := by
  unfold Lib.trimPrefix Lib.hasPrefix
  cases l with
  | nil => exact ⟨fun t h => (by cases h), fun _ => ⟨rfl, rfl⟩⟩
  | cons c t =>
    by_cases h : c = 46
    · subst h; exact ⟨fun t' h => by cases h; exact ⟨rfl, rfl⟩, fun h => by cases h⟩
    · have h1 : ([46] : List UInt8).isPrefixOf (c :: t) = false := by
        simp [List.isPrefixOf]; exact fun e => h e.symm
      have h2 : unpoint (c :: t) = none := by unfold unpoint; split <;> simp_all
      rw [h1, h2]; exact ⟨fun t h => (by cases h), fun _ => ⟨rfl, rfl⟩⟩
theorem cutm_any (l : List UInt8) (w : World) : Calls Tryz.prog 69 #[.string ⟨l.toArray⟩, .string ⟨#[45]⟩] w fun e w' => e = .returned (.tuple #[.string ⟨(unsign l).toArray⟩, .bool (minus l)]) ∧ w' = w := by
  have h := Tryz.strings_CutPrefix ⟨l.toArray⟩ ⟨#[45]⟩ w
  have e : Lib.trimPrefix (⟨l.toArray⟩ : ByteArray).data.toList (⟨#[45]⟩ : ByteArray).data.toList = unsign l := (pre_minus l).1
  have e' : Lib.hasPrefix (⟨l.toArray⟩ : ByteArray).data.toList (⟨#[45]⟩ : ByteArray).data.toList = minus l := (pre_minus l).2
  rw [e, e'] at h
  exact h
theorem cutp_some (l t : List UInt8) (ht : unpoint l = some t) (w : World) : Calls Tryz.prog 69 #[.string ⟨l.toArray⟩, .string ⟨#[46]⟩] w fun e w' => e = .returned (.tuple #[.string ⟨t.toArray⟩, .bool true]) ∧ w' = w := by
  have h := Tryz.strings_CutPrefix ⟨l.toArray⟩ ⟨#[46]⟩ w
  have e : Lib.trimPrefix (⟨l.toArray⟩ : ByteArray).data.toList (⟨#[46]⟩ : ByteArray).data.toList = t := ((pre_point l).1 t ht).1
  have e' : Lib.hasPrefix (⟨l.toArray⟩ : ByteArray).data.toList (⟨#[46]⟩ : ByteArray).data.toList = true := ((pre_point l).1 t ht).2
  rw [e, e'] at h
  exact h
theorem cutp_none (l : List UInt8) (ht : unpoint l = none) (w : World) : Calls Tryz.prog 69 #[.string ⟨l.toArray⟩, .string ⟨#[46]⟩] w fun e w' => e = .returned (.tuple #[.string ⟨l.toArray⟩, .bool false]) ∧ w' = w := by
  have h := Tryz.strings_CutPrefix ⟨l.toArray⟩ ⟨#[46]⟩ w
  have e : Lib.trimPrefix (⟨l.toArray⟩ : ByteArray).data.toList (⟨#[46]⟩ : ByteArray).data.toList = l := ((pre_point l).2 ht).1
  have e' : Lib.hasPrefix (⟨l.toArray⟩ : ByteArray).data.toList (⟨#[46]⟩ : ByteArray).data.toList = false := ((pre_point l).2 ht).2
  rw [e, e'] at h
  exact h
theorem unsign_len (l : List UInt8) : (unsign l).length ≤ l.length := by unfold unsign; split <;> simp
theorem rest_len (l : List UInt8) : (rest l).length ≤ l.length := by have := len_dr l; omega
theorem unpoint_len {l t : List UInt8} (h : unpoint l = some t) : t.length ≤ l.length := by
  unfold unpoint at h
  split at h
  · cases h; simp
  · cases h
/-- The number as the program answers it. -/
def cutV (mi : Bool) : Option (List UInt8 × List UInt8 × List UInt8) → Value
  | none => .tuple #[.agg #[.bool false, .string ⟨#[]⟩, .string ⟨#[]⟩], .string ⟨#[]⟩, .bool false]
  | some (a, b, r) => .tuple #[.agg #[.bool mi, .string ⟨a.toArray⟩, .string ⟨b.toArray⟩], .string ⟨r.toArray⟩, .bool true]
set_option maxRecDepth 20000 in
set_option maxHeartbeats 3200000 in
theorem cut_any (l : List UInt8) (hl : l.length ≤ 281474976710656) (w : World) : Calls Tryz.prog 57 #[.string ⟨l.toArray⟩] w fun e w' =>
    e = .returned (cutV (minus l) (cutP l)) ∧ Below w.heap.size w w' := by
  have hu := unsign_len l
  have hr := rest_len (unsign l)
  have M := hid' (fun w => cutm_any l w)
  have D1 := hid' (fun w => cutd_any (unsign l) (by omega) w)
  have P1 := hid' (fun t ht w => cutp_some (rest (unsign l)) t ht w)
  have P2 := hid' (fun ht w => cutp_none (rest (unsign l)) ht w)
  have P3 : Hid (∀ t, unpoint (rest (unsign l)) = some t → ∀ w, Calls Tryz.prog 70 #[.string ⟨t.toArray⟩] w fun e w' => e = .returned (.tuple #[.string ⟨(digs t).toArray⟩, .string ⟨(rest t).toArray⟩]) ∧ Below w.heap.size w w') := fun t ht w => cutd_any t (by have := unpoint_len ht; omega) w
  unfold cutP
  generalize minus l = mi at *
  generalize unsign l = u at *
  generalize digs u = A at *
  generalize rest u = R at *
  clear hu hr hl
  generalize hres : cutV mi (if A = [] then none else match unpoint R with
    | none => some (A, [], R)
    | some t => if digs t = [] then none else some (A, digs t, rest t)) = V
  have HR := hid' hres
  clear hres
  have kX : T3 ((w.alloc (.cells #[.bool false, .string ⟨#[]⟩, .string ⟨#[]⟩] 72)).alloc (.cells #[.bool mi, .string ⟨#[]⟩, .string ⟨#[]⟩] 72)) 72 w.heap.size (.bool false) (.string ⟨#[]⟩) (.string ⟨#[]⟩) := (T3.new w 72 _ _ _).alloc _
  have kY : T3 ((w.alloc (.cells #[.bool false, .string ⟨#[]⟩, .string ⟨#[]⟩] 72)).alloc (.cells #[.bool mi, .string ⟨#[]⟩, .string ⟨#[]⟩] 72)) 72 (w.heap.size + 1) (.bool mi) (.string ⟨#[]⟩) (.string ⟨#[]⟩) := by
    have := T3.new (w.alloc (.cells #[.bool false, .string ⟨#[]⟩, .string ⟨#[]⟩] 72)) 72 (.bool mi) (.string ⟨#[]⟩) (.string ⟨#[]⟩)
    rw [World.size_alloc] at this
    exact this
  have hG : Below w.heap.size w ((w.alloc (.cells #[.bool false, .string ⟨#[]⟩, .string ⟨#[]⟩] 72)).alloc (.cells #[.bool mi, .string ⟨#[]⟩, .string ⟨#[]⟩] 72)) := (((Gr.refl w).alloc _).alloc _).below
  go_enter Tryz.func57, Tryz.ntmps57
  go_upto_region 3 with (go_at_call 69; refine (M.out _).mono ?_; rintro e w' ⟨rfl, rfl⟩)
  generalize (w.alloc (.cells #[.bool false, .string ⟨#[]⟩, .string ⟨#[]⟩] 72)).alloc (.cells #[.bool mi, .string ⟨#[]⟩, .string ⟨#[]⟩] 72) = W at *
  have hX : Hid (w.heap.size + 1 ≠ w.heap.size) := Nat.succ_ne_self _
  have hS : Hid (w.heap.size ≤ w.heap.size + 1) := Nat.le_succ _
  have KX := hid' kX
  have KY := hid' kY
  have HG := hid' hG
  clear kX kY hG M
  generalize hx : w.heap.size = X at *
  generalize X + 1 = Y at *
  go_upto_region 4 with (go_at_call 70; refine (D1.out _).mono ?_; rintro e w1 ⟨rfl, l1⟩; have y1 := (KY.out.mono l1 KY.out.lt).c1; have y2 := (KY.out.mono l1 KY.out.lt).f 1)
  replace KX := hid' ((KX.out.mono l1 KX.out.lt).other (p := ⟨Y, 1, none⟩) (Ne.symm hX.out) (.string ⟨A.toArray⟩))
  replace KY := hid' ((KY.out.mono l1 KY.out.lt).set1 (.string ⟨A.toArray⟩))
  replace HG := hid' ((HG.out.trans (l1.mono (by rw [← hx]; exact HG.out.size))).setCell (p := ⟨Y, 1, none⟩) hS.out (.string ⟨A.toArray⟩))
  clear y1 y2 l1 D1
  generalize w1.setCell ⟨Y, 1, none⟩ (.string ⟨A.toArray⟩) = W2 at *
  have y1 := KY.out.c1
  cases A with
  | nil =>
    have x0 := KX.out.c0
    have x1 := KX.out.c1
    have x2 := KX.out.c2
    have f0 := KX.out.f 0
    have f1 := KX.out.f 1
    have f2 := KX.out.f 2
    go_wp2
    have k3 := ((KX.out.set0 (.bool false)).set1 (.string ⟨#[]⟩)).set2 (.string ⟨#[]⟩)
    have b3 := ((HG.out.setCell (p := ⟨X, 0, none⟩) (Nat.le_refl _) (.bool false)).setCell (p := ⟨X, 1, none⟩) (Nat.le_refl _) (.string ⟨#[]⟩)).setCell (p := ⟨X, 2, none⟩) (Nat.le_refl _) (.string ⟨#[]⟩)
    generalize ((W2.setCell ⟨X, 0, none⟩ (.bool false)).setCell ⟨X, 1, none⟩ (.string ⟨#[]⟩)).setCell ⟨X, 2, none⟩ (.string ⟨#[]⟩) = W3 at *
    have z0 := k3.c0
    have z1 := k3.c1
    have z2 := k3.c2
    refine bodyPost_ret (v := .tuple #[.agg #[.bool false, .string ⟨#[]⟩, .string ⟨#[]⟩], .string ⟨#[]⟩, .bool false]) (by simp [results, Tryz.results57, go_sem, z0, z1, z2]) rfl ⟨?_, by first | exact b3 | (rw [hx]; exact b3)⟩
    rw [← HR.out]
    first | rfl | (simp; rfl)
  | cons a A =>
    cases hp : unpoint R with
    | none =>
      have Q2 := hid' (P2.out hp)
      have x0 := KX.out.c0
      have x1 := KX.out.c1
      have x2 := KX.out.c2
      have f0 := KX.out.f 0
      have f1 := KX.out.f 1
      have f2 := KX.out.f 2
      have y0 := KY.out.c0
      have y2 := KY.out.c2
      clear P1 P2 P3
      go_wp2_with (go_at_call 69; refine (Q2.out _).mono ?_; rintro e w' ⟨rfl, rfl⟩)
      have k3 := ((KX.out.set0 (.bool mi)).set1 (.string ⟨(a :: A).toArray⟩)).set2 (.string ⟨#[]⟩)
      have b3 := ((HG.out.setCell (p := ⟨X, 0, none⟩) (Nat.le_refl _) (.bool mi)).setCell (p := ⟨X, 1, none⟩) (Nat.le_refl _) (.string ⟨(a :: A).toArray⟩)).setCell (p := ⟨X, 2, none⟩) (Nat.le_refl _) (.string ⟨#[]⟩)
      generalize ((w'.setCell ⟨X, 0, none⟩ (.bool mi)).setCell ⟨X, 1, none⟩ (.string ⟨(a :: A).toArray⟩)).setCell ⟨X, 2, none⟩ (.string ⟨#[]⟩) = W3 at *
      have z0 := k3.c0
      have z1 := k3.c1
      have z2 := k3.c2
      refine bodyPost_ret (v := .tuple #[.agg #[.bool mi, .string ⟨(a :: A).toArray⟩, .string ⟨#[]⟩], .string ⟨R.toArray⟩, .bool true]) (by simp [results, Tryz.results57, go_sem, z0, z1, z2]) rfl ⟨?_, by first | exact b3 | (rw [hx]; exact b3)⟩
      rw [← HR.out, if_neg (by simp), hp]; rfl
    | some t =>
      have Q1 := hid' (P1.out t hp)
      have Q3 := hid' (P3.out t hp)
      clear P1 P2 P3
      go_upto_region 9 with (go_at_call 69; refine (Q1.out _).mono ?_; rintro e w' ⟨rfl, rfl⟩)
      generalize hB : digs t = B at *
      generalize hC : rest t = S at *
      have HB := hid' hB
      have HC := hid' hC
      clear hB hC
      go_upto_region 10 with (go_at_call 70; refine (Q3.out _).mono ?_; rintro e w2 ⟨rfl, l2⟩; have y3 := (KY.out.mono l2 KY.out.lt).c2; have y4 := (KY.out.mono l2 KY.out.lt).f 2)
      replace KX := hid' ((KX.out.mono l2 KX.out.lt).other (p := ⟨Y, 2, none⟩) (Ne.symm hX.out) (.string ⟨B.toArray⟩))
      replace KY := hid' ((KY.out.mono l2 KY.out.lt).set2 (.string ⟨B.toArray⟩))
      replace HG := hid' ((HG.out.trans (l2.mono (by rw [← hx]; exact HG.out.size))).setCell (p := ⟨Y, 2, none⟩) hS.out (.string ⟨B.toArray⟩))
      clear y1 y3 y4 l2 Q1 Q3
      generalize w2.setCell ⟨Y, 2, none⟩ (.string ⟨B.toArray⟩) = W4 at *
      have y0 := KY.out.c0
      have y1 := KY.out.c1
      have y2 := KY.out.c2
      have x0 := KX.out.c0
      have x1 := KX.out.c1
      have x2 := KX.out.c2
      have f0 := KX.out.f 0
      have f1 := KX.out.f 1
      have f2 := KX.out.f 2
      cases B with
      | nil =>
        go_wp2
        have k3 := ((KX.out.set0 (.bool false)).set1 (.string ⟨#[]⟩)).set2 (.string ⟨#[]⟩)
        have b3 := ((HG.out.setCell (p := ⟨X, 0, none⟩) (Nat.le_refl _) (.bool false)).setCell (p := ⟨X, 1, none⟩) (Nat.le_refl _) (.string ⟨#[]⟩)).setCell (p := ⟨X, 2, none⟩) (Nat.le_refl _) (.string ⟨#[]⟩)
        generalize ((W4.setCell ⟨X, 0, none⟩ (.bool false)).setCell ⟨X, 1, none⟩ (.string ⟨#[]⟩)).setCell ⟨X, 2, none⟩ (.string ⟨#[]⟩) = W3 at *
        have z0 := k3.c0
        have z1 := k3.c1
        have z2 := k3.c2
        refine bodyPost_ret (v := .tuple #[.agg #[.bool false, .string ⟨#[]⟩, .string ⟨#[]⟩], .string ⟨#[]⟩, .bool false]) (by simp [results, Tryz.results57, go_sem, z0, z1, z2]) rfl ⟨?_, by first | exact b3 | (rw [hx]; exact b3)⟩
        rw [← HR.out, if_neg (by simp), hp]
        show _ = Ending.returned (cutV mi (if digs t = [] then none else some (a :: A, digs t, rest t)))
        rw [HB.out, HC.out]
        rfl
      | cons b B =>
        go_wp2
        have k3 := ((KX.out.set0 (.bool mi)).set1 (.string ⟨(a :: A).toArray⟩)).set2 (.string ⟨(b :: B).toArray⟩)
        have b3 := ((HG.out.setCell (p := ⟨X, 0, none⟩) (Nat.le_refl _) (.bool mi)).setCell (p := ⟨X, 1, none⟩) (Nat.le_refl _) (.string ⟨(a :: A).toArray⟩)).setCell (p := ⟨X, 2, none⟩) (Nat.le_refl _) (.string ⟨(b :: B).toArray⟩)
        generalize ((W4.setCell ⟨X, 0, none⟩ (.bool mi)).setCell ⟨X, 1, none⟩ (.string ⟨(a :: A).toArray⟩)).setCell ⟨X, 2, none⟩ (.string ⟨(b :: B).toArray⟩) = W3 at *
        have z0 := k3.c0
        have z1 := k3.c1
        have z2 := k3.c2
        refine bodyPost_ret (v := .tuple #[.agg #[.bool mi, .string ⟨(a :: A).toArray⟩, .string ⟨(b :: B).toArray⟩], .string ⟨S.toArray⟩, .bool true]) (by simp [results, Tryz.results57, go_sem, z0, z1, z2]) rfl ⟨?_, by first | exact b3 | (rw [hx]; exact b3)⟩
        rw [← HR.out, if_neg (by simp), hp]
        show _ = Ending.returned (cutV mi (if digs t = [] then none else some (a :: A, digs t, rest t)))
        rw [HB.out, HC.out]
        rfl
end Go.Proofs.YtmkechhjgdanmaaGreatDoor
