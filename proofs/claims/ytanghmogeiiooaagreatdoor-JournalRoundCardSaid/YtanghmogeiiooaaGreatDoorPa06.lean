import Derived.Test.YtanghmogeiiooaaGreatDoorPa01
import Derived.Test.YtanghmogeiiooaaGreatDoorPa04
import Derived.Test.YtanghmogeiiooaaGreatDoorPa05
set_option linter.unusedVariables false
set_option linter.unusedSimpArgs false
set_option linter.constructorNameAsVariable false
/- A record in memory; validHomes, blank, valid. -/
namespace Go.Proofs.YtanghmogeiiooaaGreatDoor
set_option linter.unusedVariables false
open Go.RowKit

abbrev recV (r : Rec) (vh vm : Value) : Value := .agg #[.int .i64 r.kind, .int .u64 (r.seq : Int), .int .i64 r.pos, vh, vm, .int .u32 (r.sum : Int)]
abbrev recC (r : Rec) (vh vm : Value) : Array Value := #[.int .i64 r.kind, .int .u64 (r.seq : Int), .int .i64 r.pos, vh, vm, .int .u32 (r.sum : Int)]
abbrev noR : Value := .agg #[.int .i64 0, .int .u64 0, .int .i64 0, .slice none 0 0, .slice none 0 0, .int .u32 0]
abbrev IntsIn (v : Value) (l : List Int) (w : World) : Prop := RowIn 1 v l.length (l.map (Value.int .i64)) w
abbrev BoolsIn (v : Value) (l : List Bool) (w : World) : Prop := RowIn 1 v l.length (l.map Value.bool) w
/-- v is the record, its lists wherever they lie -/
def RecIn (r : Rec) (vh vm : Value) (w : World) : Prop := IntsIn vh r.homes w ∧ BoolsIn vm r.masked w
theorem RecIn.kept {r : Rec} {vh vm : Value} {w w' : World} (h : RecIn r vh vm w) (hb : Below w.heap.size w w') : RecIn r vh vm w' := ⟨h.1.kept hb, h.2.kept hb⟩
theorem row_cells {α : Type} {f : α → Value} {l : List α} {w : World} {ad : Option Addr} (h : 0 < (l.map f).length → ∃ g o, ad = some ⟨g, o, none⟩ ∧ g < w.heap.size ∧ ∀ k u, (l.map f)[k]? = some u → w.cell? ⟨g, o + k, none⟩ = some u) (hi : 0 < l.length) :
    ∃ g o, ad = some ⟨g, o, none⟩ ∧ g < w.heap.size ∧ ∀ k (hk : k < l.length), w.cell? ⟨g, o + k, none⟩ = some (f l[k]) := by
  obtain ⟨g, o, e, hg, hc⟩ := h (by rw [List.length_map]; omega)
  exact ⟨g, o, e, hg, fun k hk => hc k _ (by rw [List.getElem?_map, List.getElem?_eq_getElem hk]; rfl)⟩

set_option maxHeartbeats 2000000 in
theorem vhomes_any (l : List Int) (most : Int) (hm : I64 most) (hf : ∀ x ∈ l, I64 x) (v : Value) (w : World) (hv : IntsIn v l w) :
    Calls Tryz.prog 135 #[v, .int .i64 most] w fun e w' => e = .returned (.bool (decide (HomesOk l most))) ∧ w = w' := by
  obtain ⟨ad, cap, rfl, h1, h2, h3, -⟩ := hv.shape
  by_cases c1 : 1 ≤ l.length
  · by_cases c2 : (l.length : Int) ≤ most
    · have H3 := Lib.hid (row_cells h3)
      have HF := Lib.hid hf
      clear hv h3 hf
      go_enter Tryz.func135, Tryz.ntmps135
      go_wp2
      go_loop [5, 19] (fun p q => ∃ k : Nat, p = .int .i64 (prevH l k) ∧ q = .int .i64 k ∧ k ≤ l.length ∧ Hid (upTo l k)) (fun p q => l.length - (intOf q).toNat)
      case atStart => exact ⟨0, rfl, rfl, Nat.zero_le _, Lib.hid (upTo_zero l)⟩
      case round =>
        obtain ⟨k, rfl, rfl, hk, HU⟩ := hrel
        by_cases hlt : k < l.length
        · obtain ⟨g, o, rfl, hg, hc⟩ := H3.out (by omega)
          have q1 := hc k hlt
          have hp : prevH l (k + 1) = l[k] := by unfold prevH; rw [if_neg (by omega), Nat.add_sub_cancel, hat_eq hlt]
          have hh : hat l k = l[k] := hat_eq hlt
          have hb := HF.out _ (List.getElem_mem hlt)
          have HN : Hid (prevH l k < l[k] ∧ l[k] < 4096 → upTo l (k + 1)) := Lib.hid fun h => upTo_succ.2 ⟨HU.out, by unfold upAt; rw [hh]; exact h⟩
          have HD : Hid (¬ (prevH l k < l[k] ∧ l[k] < 4096) → decide (HomesOk l most) = false) := Lib.hid fun h => by
            rw [decide_eq_false_iff_not]
            intro hh2
            have := hh2.2.2 k hlt
            unfold upAt at this; rw [hh] at this; exact h this
          have HP := Lib.hid hp
          clear hc hp hh
          generalize l[k] = x at *
          generalize prevH l k = y at *
          by_cases d1 : x ≤ y
          · have HE := Lib.hid (HD.out (by omega))
            clear HN HD
            go_wp2
            go_ret
            exact ⟨ret_bool (by rw [HE.out]), rfl⟩
          · by_cases d2 : 4096 ≤ x
            · have HE := Lib.hid (HD.out (by omega))
              clear HN HD
              go_wp2
              go_ret
              exact ⟨ret_bool (by rw [HE.out]), rfl⟩
            · have HE := Lib.hid (HN.out (by omega))
              clear HN HD
              go_wp2
              exact ⟨⟨k + 1, by rw [HP.out], by go_num, by omega, HE⟩, by simp [intOf]; omega⟩
        · obtain rfl : k = l.length := by omega
          have HE : Hid (decide (HomesOk l most) = true) := Lib.hid (decide_eq_true ⟨by omega, c2, HU.out⟩)
          go_wp2
          go_ret
          exact ⟨ret_bool (by rw [HE.out]), rfl⟩
    · have HE : Hid (decide (HomesOk l most) = false) := Lib.hid (by rw [decide_eq_false_iff_not]; exact fun h => c2 h.2.1)
      clear hv h3 hf
      go_enter Tryz.func135, Tryz.ntmps135
      go_wp2
      go_ret
      exact ⟨ret_bool (by rw [HE.out]), rfl⟩
  · have HE : Hid (decide (HomesOk l most) = false) := Lib.hid (by rw [decide_eq_false_iff_not]; intro h; have := h.1; omega)
    have c3 : l.length = 0 := by omega
    clear hv h3 hf
    go_enter Tryz.func135, Tryz.ntmps135
    go_wp2
    go_ret
    exact ⟨ret_bool (by rw [HE.out]), rfl⟩
end Go.Proofs.YtanghmogeiiooaaGreatDoor

/- HasPrefix, Mask, Unmask, the program's and the document's. -/
namespace Go.Proofs.YtanghmogeiiooaaGreatDoor
set_option linter.unusedVariables false
open Go.RowKit

/-- does it begin with the magic? -/
def begB (s : ByteArray) : Bool := (s.extract 0 4).toList == [71, 76, 74, 119]
def Begins (s : ByteArray) : Prop := 4 ≤ s.size ∧ begB s = true
instance (s : ByteArray) : Decidable (Begins s) := by unfold Begins; infer_instance
def maskS (s : ByteArray) : ByteArray := ⟨#[0, 0, 0, 0]⟩ ++ s.extract 4 s.size
def unmaskS (s : ByteArray) : ByteArray := ⟨#[71, 76, 74, 119]⟩ ++ s.extract 4 s.size

set_option maxHeartbeats 2000000 in
theorem liteprefix_any (s : ByteArray) (hs : s.size ≤ maxLen) (w : World) :
    Calls Tryz.prog 107 #[.string s, .string ⟨#[71, 76, 74, 119]⟩] w fun e w' => e = .returned (.bool (decide (Begins s))) ∧ w = w' := by
  unfold maxLen at hs
  by_cases h : 4 ≤ s.size
  · by_cases hb : begB s = true
    · have HE : Hid (decide (Begins s) = true) := Lib.hid (decide_eq_true ⟨h, hb⟩)
      have hb' : ((s.extract 0 4).toList == [71, 76, 74, 119]) = true := hb
      rw [HE.out]
      clear hb
      go_enter Tryz.func107, Tryz.ntmps107
      go_wp2
      go_ret
      exact ⟨rfl, rfl⟩
    · have hb := (Bool.not_eq_true _).mp hb
      have HE : Hid (decide (Begins s) = false) := Lib.hid (decide_eq_false (fun k => by have k2 := k.2; rw [hb] at k2; exact absurd k2 (by decide)))
      have hb' : ((s.extract 0 4).toList == [71, 76, 74, 119]) = false := hb
      rw [HE.out]
      clear hb
      go_enter Tryz.func107, Tryz.ntmps107
      go_wp2
      go_ret
      exact ⟨rfl, rfl⟩
  · have HE : Hid (decide (Begins s) = false) := Lib.hid (decide_eq_false (fun k => h k.1))
    rw [HE.out]
    go_enter Tryz.func107, Tryz.ntmps107
    go_wp2
    go_ret
    exact ⟨rfl, rfl⟩
theorem prefix_any (s : ByteArray) (hs : s.size ≤ maxLen) (w : World) :
    Calls Tryz.prog 84 #[.string s, .string ⟨#[71, 76, 74, 119]⟩] w fun e w' => e = .returned (.bool (decide (Begins s))) ∧ w = w' := by
  have L := Lib.hid (fun w => liteprefix_any s hs w)
  generalize decide (Begins s) = b at *
  go_enter Tryz.func84, Tryz.ntmps84
  go_wp2_with fail
  refine (L.out _).mono ?_; rintro e w1 ⟨rfl, rfl⟩
  go_wp2
  go_ret
  exact ⟨rfl, rfl⟩

theorem cut_size (s : ByteArray) : (s.extract 4 s.size).size = s.size - 4 := by simp [ByteArray.size_extract]
set_option maxHeartbeats 2000000 in
theorem mask_yes (s : ByteArray) (hs : s.size ≤ maxLen) (h : Begins s) (w : World) :
    Calls Tryz.prog 103 #[.string s] w fun e w' => e = .returned (.tuple #[.string (maskS s), .bool true]) ∧ w = w' := by
  have L := fun w => prefix_any s hs w
  rw [decide_eq_true h] at L
  have L := Lib.hid L
  have h4 := h.1
  have hz := cut_size s
  unfold maxLen at hs
  clear h
  go_enter Tryz.func103, Tryz.ntmps103
  go_wp2_with fail
  refine (L.out _).mono ?_; rintro e w1 ⟨rfl, rfl⟩
  go_wp2
  go_ret2
  exact ⟨rfl, rfl⟩
theorem mask_no (s : ByteArray) (hs : s.size ≤ maxLen) (h : ¬ Begins s) (w : World) :
    Calls Tryz.prog 103 #[.string s] w fun e w' => e = .returned (.tuple #[.string s, .bool false]) ∧ w = w' := by
  have L := fun w => prefix_any s hs w
  rw [decide_eq_false h] at L
  have L := Lib.hid L
  clear h
  go_enter Tryz.func103, Tryz.ntmps103
  go_wp2_with fail
  refine (L.out _).mono ?_; rintro e w1 ⟨rfl, rfl⟩
  go_wp2
  go_ret2
  exact ⟨rfl, rfl⟩
/-- what Mask tells -/
def maskV (s : ByteArray) : ByteArray := if Begins s then maskS s else s
theorem mask_any (s : ByteArray) (hs : s.size ≤ maxLen) (w : World) :
    Calls Tryz.prog 103 #[.string s] w fun e w' => e = .returned (.tuple #[.string (maskV s), .bool (decide (Begins s))]) ∧ w = w' := by
  unfold maskV
  by_cases h : Begins s
  · rw [if_pos h, decide_eq_true h]; exact mask_yes s hs h w
  · rw [if_neg h, decide_eq_false h]; exact mask_no s hs h w
/-- what Unmask tells -/
def unmaskV (s : ByteArray) : ByteArray := if 4 ≤ s.size then unmaskS s else s
end Go.Proofs.YtanghmogeiiooaaGreatDoor

/- What is masked, as bytes: no program is named here. -/
namespace Go.Proofs.YtanghmogeiiooaaGreatDoor
set_option linter.unusedVariables false
open Go.RowKit

theorem ext_list (s : ByteArray) (a b : Nat) : (s.extract a b).toList = (s.data.toList.drop a).take (b - a) := by
  rw [Lib.extract_eq, ByteArray.toList_eq]
theorem text_same {a b : ByteArray} (h : a.data.toList = b.data.toList) : a = b := by cases a; cases b; simp at h; rw [h]
/-- what is masked is unmasked to what it was -/
theorem mask_list (s : ByteArray) : (maskS s).data.toList = [0, 0, 0, 0] ++ s.data.toList.drop 4 := by
  unfold maskS
  rw [Lib.extract_eq, ByteArray.mk_append_mk]
  have e : (s.data.toList.drop 4).take (s.size - 4) = s.data.toList.drop 4 := by
    apply List.take_of_length_le
    have : s.data.toList.length = s.size := rfl
    rw [List.length_drop, this]; exact Nat.le_refl _
  rw [e]
theorem unmask_list (s : ByteArray) : (unmaskS s).data.toList = [71, 76, 74, 119] ++ s.data.toList.drop 4 := by
  unfold unmaskS
  rw [Lib.extract_eq, ByteArray.mk_append_mk]
  have e : (s.data.toList.drop 4).take (s.size - 4) = s.data.toList.drop 4 := by
    apply List.take_of_length_le
    have : s.data.toList.length = s.size := rfl
    rw [List.length_drop, this]; exact Nat.le_refl _
  rw [e]
theorem size_list (s : ByteArray) : s.data.toList.length = s.size := rfl
theorem begins_list {s : ByteArray} (h : Begins s) : s.data.toList = [71, 76, 74, 119] ++ s.data.toList.drop 4 := by
  have h1 : (s.extract 0 4).toList = [71, 76, 74, 119] := by have := h.2; unfold begB at this; exact beq_iff_eq.1 this
  rw [ext_list] at h1
  have h2 : (s.data.toList.drop 0).take (4 - 0) = s.data.toList.take 4 := rfl
  rw [h2] at h1
  rw [← h1, List.take_append_drop]
theorem begins_of {s : ByteArray} {l : List UInt8} (h : s.data.toList = [71, 76, 74, 119] ++ l) : Begins s := by
  refine ⟨?_, ?_⟩
  · rw [← size_list, h]; simp
  · unfold begB; rw [ext_list, h]; rfl
theorem maskS_size {s : ByteArray} (h : 4 ≤ s.size) : (maskS s).size = s.size := by
  rw [← size_list, mask_list, List.length_append, List.length_drop, size_list]; simp; omega
theorem mask_back {s : ByteArray} (h : Begins s) : unmaskV (maskS s) = s := by
  unfold unmaskV
  rw [if_pos (by rw [maskS_size h.1]; exact h.1)]
  apply text_same
  rw [unmask_list, mask_list]
  exact (begins_list h).symm
theorem mask_off (s : ByteArray) : ¬ Begins (maskS s) := by
  intro h
  have := begins_list h
  rw [mask_list] at this
  simp at this
theorem blk_begins (r : Rec) : Begins (blk r) := begins_of (l := leB 1 r.kind.toNat ++ (leB 8 r.seq ++ (fieldsB r ++ List.replicate (128 - (bodyB r).length) 0))) (blk_list r)
theorem isBlk_begins {s : ByteArray} (h : IsBlk s) : Begins s := by rw [← h.2.2]; exact blk_begins _
end Go.Proofs.YtanghmogeiiooaaGreatDoor
