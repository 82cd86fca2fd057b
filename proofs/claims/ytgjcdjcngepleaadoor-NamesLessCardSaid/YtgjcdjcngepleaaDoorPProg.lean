/- isName, isNoComponent, Check, fault, separated, Split, Join: the program's. -/
import Derived.Test.YtgjcdjcngepleaaDoorPSeg
import Derived.Test.YtgjcdjcngepleaaDoorECBar
namespace Go.Proofs.YtgjcdjcngepleaaDoor
set_option linter.unusedVariables false
open Go.RowKit

def nameB (s : ByteArray) : Bool := decide (NameOk s ∧ s ≠ dotB ∧ s ≠ dotsB)
theorem nameE_of (s : ByteArray) : nameE s = if nameB s = true then 0 else 130 := by
  unfold nameE nameB
  by_cases h : NameOk s ∧ s ≠ dotB ∧ s ≠ dotsB
  · rw [if_pos h, decide_eq_true h, if_pos rfl]
  · rw [if_neg h, decide_eq_false h, if_neg (by decide)]
set_option maxHeartbeats 4000000 in
theorem isName_any (s : ByteArray) (hs : s.size ≤ 9223372036854775807) (w : World) :
    Calls Tryd.prog 22 #[.string s] w fun e w' => e = .returned (.bool (nameB s)) ∧ Below w.heap.size w w' := by
  have q1 := dot_eq s
  have q2 := dots_eq s
  rw [t_dot] at q1
  rw [t_dots] at q2
  by_cases h1 : s = dotB
  · have HR : Hid (nameB s = false) := Lib.hid (decide_eq_false fun k => k.2.1 h1)
    rw [HR.out]
    rw [decide_eq_true h1] at q1
    clear h1 HR q2
    go_enter Tryd.func22, Tryd.ntmps22
    go_wp2
    go_ret
    exact ⟨rfl, Below.refl _ _⟩
  · rw [decide_eq_false h1] at q1
    by_cases h2 : s = dotsB
    · have HR : Hid (nameB s = false) := Lib.hid (decide_eq_false fun k => k.2.2 h2)
      rw [HR.out]
      rw [decide_eq_true h2] at q2
      clear h1 h2 HR
      go_enter Tryd.func22, Tryd.ntmps22
      go_wp2
      go_ret
      exact ⟨rfl, Below.refl _ _⟩
    · rw [decide_eq_false h2] at q2
      by_cases h3 : 1 ≤ s.size
      · have t1 : decide ((1 : Int) ≤ (s.size : Int)) = true := decide_eq_true (by omega)
        by_cases h4 : s.size ≤ 32
        · have t2 : decide ((s.size : Int) ≤ (32 : Int)) = true := decide_eq_true (by omega)
          have C := cont_bar s (by omega) w
          have HR : Hid (nameB s = decide (∀ c ∈ s.data.toList, charOk c)) := Lib.hid (by
            unfold nameB; rw [decide_eq_decide]; unfold NameOk
            exact ⟨fun h => h.1.2, fun h => ⟨⟨⟨h3, h4⟩, h⟩, h1, h2⟩⟩)
          rw [HR.out]
          generalize decide (∀ c ∈ s.data.toList, charOk c) = b at *
          have C := Lib.hid C
          clear h1 h2 h3 h4 HR
          go_enter Tryd.func22, Tryd.ntmps22
          go_wp2_with fail
          refine C.out.mono ?_; rintro e w2 ⟨rfl, b2⟩
          go_wp2
          go_ret
          exact ⟨ret_bool (by cases b <;> rfl), b2⟩
        · have t2 : decide ((s.size : Int) ≤ (32 : Int)) = false := decide_eq_false (by omega)
          have HR : Hid (nameB s = false) := Lib.hid (decide_eq_false fun k => h4 k.1.1.2)
          rw [HR.out]
          clear h1 h2 h3 h4 HR
          go_enter Tryd.func22, Tryd.ntmps22
          go_wp2
          go_ret
          exact ⟨rfl, Below.refl _ _⟩
      · have t1 : decide ((1 : Int) ≤ (s.size : Int)) = false := decide_eq_false (by omega)
        have HR : Hid (nameB s = false) := Lib.hid (decide_eq_false fun k => h3 k.1.1.1)
        rw [HR.out]
        clear h1 h2 h3 HR
        go_enter Tryd.func22, Tryd.ntmps22
        go_wp2
        go_ret
        exact ⟨rfl, Below.refl _ _⟩
theorem noComp_any (s : ByteArray) (hs : s.size ≤ 9223372036854775807) (w : World) :
    Calls Tryd.prog 27 #[.string s] w fun e w' => e = .returned (.bool (!decide (NameOk s))) ∧ Below w.heap.size w w' := by
  have q1 := dot_eq s
  have q2 := dots_eq s
  rw [t_dot] at q1
  rw [t_dots] at q2
  by_cases h1 : s = dotB
  · have HR : Hid ((!decide (NameOk s)) = false) := Lib.hid (by rw [h1, decide_eq_true dotB_ok]; rfl)
    rw [HR.out]
    rw [decide_eq_true h1] at q1
    clear h1 HR q2
    go_enter Tryd.func27, Tryd.ntmps27
    go_wp2
    go_ret
    exact ⟨rfl, Below.refl _ _⟩
  · rw [decide_eq_false h1] at q1
    by_cases h2 : s = dotsB
    · have HR : Hid ((!decide (NameOk s)) = false) := Lib.hid (by rw [h2, decide_eq_true dotsB_ok]; rfl)
      rw [HR.out]
      rw [decide_eq_true h2] at q2
      clear h1 h2 HR
      go_enter Tryd.func27, Tryd.ntmps27
      go_wp2
      go_ret
      exact ⟨rfl, Below.refl _ _⟩
    · rw [decide_eq_false h2] at q2
      have C := isName_any s hs w
      have HR : Hid ((!decide (NameOk s)) = !nameB s) := Lib.hid (by
        congr 1; unfold nameB; rw [decide_eq_decide]; exact ⟨fun h => ⟨h, h1, h2⟩, fun h => h.1⟩)
      rw [HR.out]
      generalize nameB s = b at *
      have C := Lib.hid C
      clear h1 h2 HR
      go_enter Tryd.func27, Tryd.ntmps27
      go_wp2_with fail
      refine C.out.mono ?_; rintro e w2 ⟨rfl, b2⟩
      go_wp2
      go_ret
      exact ⟨ret_bool (by cases b <;> rfl), b2⟩
theorem check_any (s : ByteArray) (hs : s.size ≤ 9223372036854775807) (w : World) :
    Calls Tryd.prog 11 #[.string s] w fun e w' => e = .returned (.int .i64 (nameE s)) ∧ Below w.heap.size w w' := by
  have C := isName_any s hs w
  rw [nameE_of]
  cases hb : nameB s with
  | true =>
    rw [hb] at C
    rw [if_pos rfl]
    have C := Lib.hid C
    clear hb
    go_enter Tryd.func11, Tryd.ntmps11
    go_wp2_with fail
    refine C.out.mono ?_; rintro e w2 ⟨rfl, b2⟩
    go_wp2
    go_ret
    exact ⟨rfl, b2⟩
  | false =>
    rw [hb] at C
    rw [if_neg (by decide)]
    have C := Lib.hid C
    clear hb
    go_enter Tryd.func11, Tryd.ntmps11
    go_wp2_with fail
    refine C.out.mono ?_; rintro e w2 ⟨rfl, b2⟩
    go_wp2
    go_ret
    exact ⟨rfl, b2⟩
def faultE (l : List ByteArray) : Int := if ¬ Comps l then 130 else if 16 < l.length then 3 else 0
theorem any_fault (l : List ByteArray) : (l.any fun s => !decide (NameOk s)) = !decide (Comps l) := by
  by_cases h : Comps l
  · rw [decide_eq_true h]
    show _ = false
    rw [List.any_eq_false]
    intro x hx
    simp [h x hx]
  · rw [decide_eq_false h]
    show _ = true
    rw [List.any_eq_true]
    refine Classical.byContradiction fun hn => h fun x hx => ?_
    refine Classical.byContradiction fun hx2 => hn ⟨x, hx, by simp [hx2]⟩
theorem le_sum {x : Nat} : ∀ {l : List Nat}, x ∈ l → x ≤ l.sum
  | [], h => by simp at h
  | y :: l, h => by
    rw [List.sum_cons]
    rcases List.mem_cons.1 h with rfl | h
    · omega
    · have := le_sum h; omega
set_option maxHeartbeats 4000000 in
theorem fault_any (l : List ByteArray) (hf : ∀ d ∈ l, d.size ≤ maxLen) (v : Value) (w : World) (hv : StrsIn v l w) :
    Calls Tryd.prog 20 #[v] w fun e w' => e = .returned (.int .i64 (faultE l)) ∧ Below w.heap.size w w' := by
  have C := contT_any l 27 (fun s => !decide (NameOk s)) v w hv (fun _ _ => rfl) (fun d hd W _ => noComp_any d (hf d hd) W)
  rw [any_fault] at C
  obtain ⟨ad, cap, rfl, -⟩ := strsIn_cells hv
  unfold faultE
  by_cases hc : Comps l
  · rw [if_neg (by simp [hc])]
    rw [decide_eq_true hc] at C
    by_cases h16 : 16 < l.length
    · rw [if_pos h16]
      have t1 : decide ((16 : Int) < (l.length : Int)) = true := decide_eq_true (by omega)
      have C := Lib.hid C
      clear hc h16 hv hf
      go_enter Tryd.func20, Tryd.ntmps20
      go_wp2_with fail
      refine C.out.mono ?_; rintro e w2 ⟨rfl, b2⟩
      go_wp2
      go_ret
      exact ⟨rfl, b2⟩
    · rw [if_neg h16]
      have t1 : decide ((16 : Int) < (l.length : Int)) = false := decide_eq_false (by omega)
      have C := Lib.hid C
      clear hc h16 hv hf
      go_enter Tryd.func20, Tryd.ntmps20
      go_wp2_with fail
      refine C.out.mono ?_; rintro e w2 ⟨rfl, b2⟩
      go_wp2
      go_ret
      exact ⟨rfl, b2⟩
  · rw [if_pos hc]
    rw [decide_eq_false hc] at C
    have C := Lib.hid C
    clear hc hv hf
    go_enter Tryd.func20, Tryd.ntmps20
    go_wp2_with fail
    refine C.out.mono ?_; rintro e w2 ⟨rfl, b2⟩
    go_wp2
    go_ret
    exact ⟨rfl, b2⟩
def sepV (r : ByteArray) : List ByteArray := if r.size = 0 then [] else (segs r.data.toList).map bs
theorem sep_any (r : ByteArray) (hr : r.size ≤ 1000) (w : World) :
    Calls Tryd.prog 19 #[.string r] w fun e w' => ∃ v, e = .returned v ∧ StrsAt w.heap.size v (sepV r) w' ∧ Below w.heap.size w w' := by
  have q1 := nil_eq r
  rw [t_nil] at q1
  unfold sepV
  by_cases h : r.size = 0
  · rw [if_pos h]
    rw [decide_eq_true h] at q1
    clear h
    go_enter Tryd.func19, Tryd.ntmps19
    go_wp2
    go_ret
    exact ⟨_, rfl, World.ownsRow_nil _ _ _ _, Below.refl _ _⟩
  · rw [if_neg h]
    rw [decide_eq_false h] at q1
    have C := Lib.hid (strs_split r hr w)
    generalize (segs r.data.toList).map bs = L at *
    clear h
    go_enter Tryd.func19, Tryd.ntmps19
    go_wp2_with fail
    refine C.out.mono ?_; rintro e w2 ⟨v, rfl, hv, b2⟩
    obtain ⟨ad, cap, rfl, -⟩ := shape_of hv
    go_wp2
    go_ret
    exact ⟨_, rfl, hv, b2⟩
theorem sep_split {s : ByteArray} (h : ¬ 256 < s.size) (hh : s.data.toList.head? = some 47) (r : ByteArray) (hr : r = bs (s.data.toList.drop 1)) :
    r.size ≤ 256 ∧ (∀ d ∈ sepV r, d.size ≤ maxLen) ∧ faultE (sepV r) = splitE s ∧ (splitE s = 0 → sepV r = splitV s) := by
  have hrl : r.data.toList = s.data.toList.drop 1 := by rw [hr, bs_list]
  have hl : s.data.toList.length = s.size := bsize s
  have hrs : r.size = s.size - 1 := by rw [← bsize, hrl, List.length_drop, hl]
  have hp : 0 < s.size := by
    cases e : s.data.toList with
    | nil => rw [e] at hh; simp at hh
    | cons c t => rw [← hl, e]; simp
  have hd : ∀ d ∈ partsOf s, d.size ≤ maxLen := by
    intro d hd
    have := path_parts hh
    have hz : (pathB (partsOf s)).size = s.size := by rw [this]
    rw [pathB_size] at hz
    have hm : d.size + 1 ≤ ((partsOf s).map fun s => s.size + 1).sum := le_sum (List.mem_map_of_mem hd)
    unfold maxLen; omega
  refine ⟨by omega, ?_, ?_⟩
  · unfold sepV
    split
    · intro d hd; simp at hd
    · rw [hrl]; exact hd
  · have e0 : splitE s = if s.size = 1 then 0 else if ¬ Comps (partsOf s) then 130 else if 16 < (partsOf s).length then 3 else 0 := by
      unfold splitE; rw [if_neg h, if_neg (by rw [hh]; simp)]
    by_cases h1 : s.size = 1
    · have e1 : sepV r = [] := by unfold sepV; rw [if_pos (by omega)]
      rw [e0, if_pos h1, e1]
      refine ⟨by decide, fun _ => ?_⟩
      unfold splitV; rw [if_neg (fun k => k.2 h1)]
    · have e1 : sepV r = partsOf s := by unfold sepV partsOf; rw [if_neg (by omega), hrl]
      rw [e0, if_neg h1, e1]
      refine ⟨rfl, fun hz => ?_⟩
      unfold splitV; rw [if_pos ⟨by rw [e0, if_neg h1]; exact hz, h1⟩]
set_option maxHeartbeats 4000000 in
theorem split_any (s : ByteArray) (hs : s.size ≤ 9223372036854775807) (w : World) :
    Calls Tryd.prog 9 #[.string s] w fun e w' => ∃ v, e = .returned (.tuple #[v, .int .i64 (splitE s)]) ∧ StrsAt w.heap.size v (splitV s) w' ∧ Below w.heap.size w w' := by
  by_cases h256 : 256 < s.size
  · have HF := Lib.hid (split_long h256)
    have t1 : decide ((256 : Int) < (s.size : Int)) = true := decide_eq_true (by omega)
    clear h256
    go_enter Tryd.func9, Tryd.ntmps9
    go_wp2
    go_ret2
    exact ⟨_, by rw [HF.out.1]; rfl, by rw [HF.out.2]; exact World.ownsRow_nil _ _ _ _, Below.refl _ _⟩
  · have t1 : decide ((256 : Int) < (s.size : Int)) = false := decide_eq_false (by omega)
    have CP := cut_pre s w
    by_cases hh : s.data.toList.head? = some 47
    · have HS := Lib.hid (sep_split h256 hh)
      have HB : Hid (splitE s ≠ 0 → splitV s = []) := Lib.hid split_none
      rw [decide_eq_true hh] at CP
      have HH := Lib.hid hh
      have CP := Lib.hid CP
      generalize splitE s = E at *
      generalize splitV s = V at *
      clear hh h256
      go_enter Tryd.func9, Tryd.ntmps9
      go_wp2_with fail
      refine CP.out.mono ?_; rintro e w1 ⟨r, rfl, hr, rfl⟩
      obtain ⟨g1, g2, g3, g4⟩ := HS.out r (hr.out HH.out)
      have SP := Lib.hid (sep_any r (by omega) w1)
      have FL := Lib.hid (fault_any (sepV r) g2)
      rw [g3] at FL
      have HV := Lib.hid g4
      generalize sepV r = M at *
      clear hr HH HS CP g1 g2 g3 g4
      go_wp2_with fail
      refine SP.out.mono ?_; rintro e w2 ⟨v, rfl, hv, b2⟩
      obtain ⟨ad, cap, rfl, -⟩ := shape_of hv
      go_wp2_with fail
      refine (FL.out _ _ (strsAt_in hv)).mono ?_; rintro e w3 ⟨rfl, b3⟩
      have hv3 := row_kept hv b3
      have hb3 := bnext b2 b3
      clear b2 b3 hv SP FL
      by_cases hE : E = 0
      · have HVe := Lib.hid (HV.out hE)
        subst hE
        go_wp2
        go_ret2
        exact ⟨_, rfl, by rw [← HVe.out]; exact hv3, hb3⟩
      · have HVe := Lib.hid (HB.out hE)
        have t2 : (E != 0) = true := by rw [bne_iff_ne]; exact hE
        have t3 : (E == 0) = false := by rw [beq_eq_false_iff_ne]; exact hE
        clear hE
        go_wp2
        go_ret2
        exact ⟨_, rfl, by rw [HVe.out]; exact World.ownsRow_nil _ _ _ _, hb3⟩
    · have HF : Hid (splitE s = 130 ∧ splitV s = []) := Lib.hid (by
        have e : splitE s = 130 := by unfold splitE; rw [if_neg h256, if_pos hh]
        exact ⟨e, split_none (by rw [e]; decide)⟩)
      rw [decide_eq_false hh] at CP
      have CP := Lib.hid CP
      clear hh h256
      go_enter Tryd.func9, Tryd.ntmps9
      go_wp2_with fail
      refine CP.out.mono ?_; rintro e w1 ⟨r, rfl, hr, rfl⟩
      clear hr CP
      go_wp2
      go_ret2
      exact ⟨_, by rw [HF.out.1]; rfl, by rw [HF.out.2]; exact World.ownsRow_nil _ _ _ _, Below.refl _ _⟩
set_option maxHeartbeats 4000000 in
theorem join_any (l : List ByteArray) (hf : ∀ d ∈ l, d.size ≤ maxLen) (v : Value) (w : World) (hv : StrsIn v l w) :
    Calls Tryd.prog 16 #[v] w fun e w' => e = .returned (.tuple #[.string (joinS l), .int .i64 (joinE l)]) ∧ Below w.heap.size w w' := by
  have FL := fault_any l hf v w hv
  by_cases hc : Comps l
  · by_cases h16 : 16 < l.length
    · have HR := Lib.hid (join_many hc h16)
      have hE : faultE l = 3 := by unfold faultE; rw [if_neg (by simp [hc]), if_pos h16]
      rw [hE] at FL
      obtain ⟨ad, cap, rfl, -⟩ := strsIn_cells hv
      have FL := Lib.hid FL
      clear hc h16 hE hv hf
      go_enter Tryd.func16, Tryd.ntmps16
      go_wp2_with fail
      refine FL.out.mono ?_; rintro e w1 ⟨rfl, b1⟩
      go_wp2
      go_ret2
      exact ⟨by rw [HR.out.1, HR.out.2]; rfl, b1⟩
    · have hE : faultE l = 0 := by unfold faultE; rw [if_neg (by simp [hc]), if_neg h16]
      rw [hE] at FL
      have SJ := Lib.hid (strs_join l hc (by omega))
      have HL : Hid (256 < (pathOf l).size → joinE l = 3 ∧ joinS l = ⟨#[]⟩) := Lib.hid fun h => by
        by_cases h0 : l = []
        · subst h0; exact absurd h (by decide)
        · rw [pathOf_ne h0] at h; exact join_long hc h16 h
      have HF : Hid (¬ 256 < (pathOf l).size → joinE l = 0 ∧ joinS l = pathOf l) := Lib.hid fun h => by
        by_cases h0 : l = []
        · subst h0; exact ⟨rfl, rfl⟩
        · rw [pathOf_ne h0] at h; exact join_fine hc h16 h
      have HV := Lib.hid hv
      obtain ⟨ad, cap, rfl, -⟩ := strsIn_cells hv
      have FL := Lib.hid FL
      generalize joinE l = E at *
      generalize joinS l = J0 at *
      clear hc h16 hE hv hf
      go_enter Tryd.func16, Tryd.ntmps16
      go_wp2_with fail
      refine FL.out.mono ?_; rintro e w1 ⟨rfl, b1⟩
      have hv1 := Lib.hid (HV.out.kept b1)
      go_wp2_with fail
      refine (SJ.out _ _ hv1.out).mono ?_; rintro e w2 ⟨J, rfl, hJ, hJz, b2⟩
      have hb2 := bnext b1 b2
      have e1 : ∀ w, (Op.stringOp .add ⟨#[47]⟩ J).run Tryd.prog w = .ok (.string (pathOf l)) w := fun w => by
        rw [← hJ.out]; exact run_string_add_sum _ _ _ (by show 1 + J.size ≤ _; omega)
      generalize pathOf l = PO at *
      clear b1 b2 hv1 hJ hJz SJ FL HV
      by_cases h256 : 256 < PO.size
      · have HR := Lib.hid (HL.out h256)
        have t2 : decide ((256 : Int) < (PO.size : Int)) = true := decide_eq_true (by omega)
        clear h256 HL HF
        go_wp2
        go_ret2
        exact ⟨by rw [HR.out.1, HR.out.2]; rfl, hb2⟩
      · have HR := Lib.hid (HF.out h256)
        have t2 : decide ((256 : Int) < (PO.size : Int)) = false := decide_eq_false (by omega)
        clear h256 HL HF
        go_wp2
        go_ret2
        exact ⟨by rw [HR.out.1, HR.out.2]; rfl, hb2⟩
  · have HR := Lib.hid (join_bad hc)
    have hE : faultE l = 130 := by unfold faultE; rw [if_pos hc]
    rw [hE] at FL
    obtain ⟨ad, cap, rfl, -⟩ := strsIn_cells hv
    have FL := Lib.hid FL
    clear hc hE hv hf
    go_enter Tryd.func16, Tryd.ntmps16
    go_wp2_with fail
    refine FL.out.mono ?_; rintro e w1 ⟨rfl, b1⟩
    go_wp2
    go_ret2
    exact ⟨by rw [HR.out.1, HR.out.2]; rfl, b1⟩
end Go.Proofs.YtgjcdjcngepleaaDoor
