/- The law's text of a number. -/
import Derived.Test.YtodlhclaboofiaaDoorQa
import Derived.Test.YtodlhclaboofiaaDoorShelf
import Derived.Lib.ItoaLen
set_option linter.unusedSimpArgs false
set_option linter.unusedVariables false
namespace Go.Proofs.YtodlhclaboofiaaDoor
open Go.RowKit Go.Sort Go

/-- The table that strconv reads lies there. -/
def Tab (w : World) : Prop := Lib.TabIs Tryd.prog w "internal/strconv.uint64pow10" .u64 Lib.pow10Tab
def tx (v : Int) : ByteArray := if v = 0 then ⟨#[]⟩ else ⟨#[118]⟩ ++ ⟨(Lib.itoa v).toArray⟩
theorem tx_zero : tx 0 = ⟨#[]⟩ := by unfold tx; rw [if_pos rfl]
theorem text_any (v : Int) (w : World) (h : in64 v) (ht : Tab w) : Calls Tryd.prog 23 #[.int .i64 v] w fun e w' => e = .returned (.string (tx v)) ∧ Gr w w' := by
  by_cases c : v = 0
  · subst c
    rw [tx_zero]
    go_enter Tryd.func23, Tryd.ntmps23
    go_wp2
    go_ret
    exact ⟨rfl, Gr.refl _⟩
  · have T := hid0 (Tryd.strconv_Itoa v h.1 h.2 w ht)
    have e : Hid (tx v = ⟨#[118]⟩ ++ ⟨(Lib.itoa v).toArray⟩) := by show tx v = _; unfold tx; rw [if_neg c]
    have c' : (v == 0) = false := by simpa using c
    have hl := Lib.itoa_length_le v h.1 h.2
    have hl2 : ¬ 9223372036854775807 < 1 + (Lib.itoa v).length := by omega
    clear c ht
    go_enter Tryd.func23, Tryd.ntmps23
    go_wp2_with fail
    refine T.out.mono ?_
    rintro e w1 ⟨rfl, k, os, rfl⟩
    go_wp2
    go_ret
    exact ⟨by rw [e.out]; rfl, k, os, rfl⟩
abbrev sV (v : Int) : Value := .string (tx v)
theorem sV_zero : sV 0 = .string ⟨#[]⟩ := by show Value.string (tx 0) = _; rw [tx_zero]
def senc (v : Int) : List Value := [sV v]
theorem senc_len (v : Int) : (senc v).length = 1 := rfl
end Go.Proofs.YtodlhclaboofiaaDoor
