/- A record in memory; validHomes, blank, valid. -/
import Derived.Test.YtonfloehobcfbaaBase
import Derived.Test.YtonfloehobcfbaaRowIn
import Derived.Test.YtonfloehobcfbaaKMath
namespace Go.Proofs.Ytonfloehobcfbaa
set_option linter.unusedVariables false
open Go.RowKit

abbrev recV (r : Rec) (vh vm : Value) : Value := .agg #[.int .i64 r.kind, .int .u64 (r.seq : Int), .int .i64 r.pos, vh, vm, .int .u32 (r.sum : Int)]
abbrev recC (r : Rec) (vh vm : Value) : Array Value := #[.int .i64 r.kind, .int .u64 (r.seq : Int), .int .i64 r.pos, vh, vm, .int .u32 (r.sum : Int)]
abbrev noR : Value := .agg #[.int .i64 0, .int .u64 0, .int .i64 0, .slice none 0 0, .slice none 0 0, .int .u32 0]
abbrev IntsIn (v : Value) (l : List Int) (w : World) : Prop := RowIn 1 v l.length (l.map (Value.int .i64)) w
abbrev BoolsIn (v : Value) (l : List Bool) (w : World) : Prop := RowIn 1 v l.length (l.map Value.bool) w
/-- v is the record, its lists wherever they lie -/
def RecIn (r : Rec) (vh vm : Value) (w : World) : Prop := IntsIn vh r.homes w ∧ BoolsIn vm r.masked w
theorem RecIn.kept {r : Rec} {vh vm : Value} {w w' : World} (h : RecIn r vh vm w) (hb : Below w.heap.size w w') : RecIn r vh vm w' := ⟨h.1.kept hb, h.2.kept hb⟩
theorem row_cells {α : Type} {f : α → Value} {l : List α} {w : World} {ad : Option Addr} (h : 0 < (l.map f).length → ∃ g o, ad = some ⟨g, o, none⟩ ∧ g < w.heap.size ∧ ∀ k u, (l.map f)[k]? = some u → w.cell? ⟨g, o + k, none⟩ = some u) (hi : 0 < l.length) :
    ∃ g o, ad = some ⟨g, o, none⟩ ∧ g < w.heap.size ∧ ∀ k (hk : k < l.length), w.cell? ⟨g, o + k, none⟩ = some (f l[k]) := by
  obtain ⟨g, o, e, hg, hc⟩ := h (by rw [List.length_map]; omega)
  exact ⟨g, o, e, hg, fun k hk => hc k _ (by rw [List.getElem?_map, List.getElem?_eq_getElem hk]; rfl)⟩

set_option maxHeartbeats 2000000 in
theorem vhomes_any (l : List Int) (most : Int) (hm : I64 most) (hf : ∀ x ∈ l, I64 x) (v : Value) (w : World) (hv : IntsIn v l w) :
    Calls Try.prog 60 #[v, .int .i64 most] w fun e w' => e = .returned (.bool (decide (HomesOk l most))) ∧ w = w' := by
  obtain ⟨ad, cap, rfl, h1, h2, h3, -⟩ := hv.shape
  by_cases c1 : 1 ≤ l.length
  · by_cases c2 : (l.length : Int) ≤ most
    · have H3 := Lib.hid (row_cells h3)
      have HF := Lib.hid hf
      clear hv h3 hf
      go_enter Try.func60, Try.ntmps60
      go_wp2
      go_loop [5, 19] (fun p q => ∃ k : Nat, p = .int .i64 (prevH l k) ∧ q = .int .i64 k ∧ k ≤ l.length ∧ Hid (upTo l k)) (fun p q => l.length - (intOf q).toNat)
      case atStart => exact ⟨0, rfl, rfl, Nat.zero_le _, Lib.hid (upTo_zero l)⟩
      case round =>
        obtain ⟨k, rfl, rfl, hk, HU⟩ := hrel
        by_cases hlt : k < l.length
        · obtain ⟨g, o, rfl, hg, hc⟩ := H3.out (by omega)
          have q1 := hc k hlt
          have hp : prevH l (k + 1) = l[k] := by unfold prevH; rw [if_neg (by omega), Nat.add_sub_cancel, hat_eq hlt]
          have hh : hat l k = l[k] := hat_eq hlt
          have hb := HF.out _ (List.getElem_mem hlt)
          have HN : Hid (prevH l k < l[k] ∧ l[k] < 4096 → upTo l (k + 1)) := Lib.hid fun h => upTo_succ.2 ⟨HU.out, by unfold upAt; rw [hh]; exact h⟩
          have HD : Hid (¬ (prevH l k < l[k] ∧ l[k] < 4096) → decide (HomesOk l most) = false) := Lib.hid fun h => by
            rw [decide_eq_false_iff_not]
            intro hh2
            have := hh2.2.2 k hlt
            unfold upAt at this; rw [hh] at this; exact h this
          have HP := Lib.hid hp
          clear hc hp hh
          generalize l[k] = x at *
          generalize prevH l k = y at *
          by_cases d1 : x ≤ y
          · have HE := Lib.hid (HD.out (by omega))
            clear HN HD
            go_wp2
            go_ret
            exact ⟨ret_bool (by rw [HE.out]), rfl⟩
          · by_cases d2 : 4096 ≤ x
            · have HE := Lib.hid (HD.out (by omega))
              clear HN HD
              go_wp2
              go_ret
              exact ⟨ret_bool (by rw [HE.out]), rfl⟩
            · have HE := Lib.hid (HN.out (by omega))
              clear HN HD
              go_wp2
              exact ⟨⟨k + 1, by rw [HP.out], by go_num, by omega, HE⟩, by simp [intOf]; omega⟩
        · obtain rfl : k = l.length := by omega
          have HE : Hid (decide (HomesOk l most) = true) := Lib.hid (decide_eq_true ⟨by omega, c2, HU.out⟩)
          go_wp2
          go_ret
          exact ⟨ret_bool (by rw [HE.out]), rfl⟩
    · have HE : Hid (decide (HomesOk l most) = false) := Lib.hid (by rw [decide_eq_false_iff_not]; exact fun h => c2 h.2.1)
      clear hv h3 hf
      go_enter Try.func60, Try.ntmps60
      go_wp2
      go_ret
      exact ⟨ret_bool (by rw [HE.out]), rfl⟩
  · have HE : Hid (decide (HomesOk l most) = false) := Lib.hid (by rw [decide_eq_false_iff_not]; intro h; have := h.1; omega)
    have c3 : l.length = 0 := by omega
    clear hv h3 hf
    go_enter Try.func60, Try.ntmps60
    go_wp2
    go_ret
    exact ⟨ret_bool (by rw [HE.out]), rfl⟩
end Go.Proofs.Ytonfloehobcfbaa
