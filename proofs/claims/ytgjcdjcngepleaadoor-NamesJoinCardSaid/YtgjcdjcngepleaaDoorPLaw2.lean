/- The walk of NamesJoin. -/
import Derived.Test.YtgjcdjcngepleaaDoorPAlive
namespace Go.Proofs.YtgjcdjcngepleaaDoor
set_option linter.unusedVariables false
open Go.RowKit

theorem twin_inT {B : Nat} {ad : Option Addr} {cp n : Nat} {L : List ByteArray} {x y : ByteArray} {w : World} (hn : L.length = n) (h : w.ownsRow B 9 1 (.slice ad (n + 2) cp) (L ++ [x, y]).length (cellsT (L ++ [x, y]))) : StrsIn (.slice ad n cp) L w := by
  have := strs_take n (by simp; omega) (strsAt_in h)
  rwa [List.take_left' hn] at this
theorem twin_endsT {B : Nat} {ad : Option Addr} {cp n : Nat} {L : List ByteArray} {x y : ByteArray} {w : World} (hn : L.length = n) (h : w.ownsRow B 9 1 (.slice ad (n + 2) cp) (L ++ [x, y]).length (cellsT (L ++ [x, y]))) :
    ∃ g, ad = some ⟨g, 0, none⟩ ∧ g < w.heap.size ∧ n + 2 ≤ cp ∧ cp ≤ 9223372036854775807 ∧ w.cell? ⟨g, n, none⟩ = some (.string x) ∧ w.cell? ⟨g, n + 1, none⟩ = some (.string y) := by
  have hl : (L ++ [x, y]).length = n + 2 := by simp [hn]
  rw [hl] at h
  obtain ⟨ad', cp', e1, h1, h2, h3⟩ := shape_of h
  cases e1
  obtain ⟨g, rfl, hB, hg⟩ := h3 (by omega)
  have a := cellsT_at (L ++ [x, y]) n (by rw [hl]; omega)
  have b := cellsT_at (L ++ [x, y]) (n + 1) (by rw [hl]; omega)
  have ea : sat (L ++ [x, y]) n = x := by unfold sat; rw [List.getElem?_append_right (by omega), hn, Nat.sub_self]; rfl
  have eb : sat (L ++ [x, y]) (n + 1) = y := by unfold sat; rw [List.getElem?_append_right (by omega), hn, Nat.add_sub_cancel_left]; rfl
  rw [ea] at a
  rw [eb] at b
  exact ⟨g, rfl, hg, h1, h2, (h.cellAt _ (by omega)).trans a, (h.cellAt _ (by omega)).trans b⟩
def endsT : List ByteArray := [⟨#[120, 47, 49]⟩, ⟨#[120, 47, 50]⟩]
set_option maxRecDepth 100000 in
set_option maxHeartbeats 4000000 in
theorem pjoin_walk (l : List ByteArray) (hf : ∀ x ∈ l, x.size ≤ maxLen) (v : Value) (w : World) (hv : StrsIn v l w) :
    Calls Tryd.prog 4 #[v] w fun e w' => e = .returned (.bool true) ∧ Below w.heap.size w w' := by
  have G := tgreat_any l hf v w hv
  obtain ⟨ad, cap, rfl, -⟩ := strsIn_cells hv
  have AL := Lib.hid palive_any
  cases hg : greatT l with
  | true =>
    rw [hg] at G
    have G := Lib.hid G
    clear hv
    go_enter Tryd.func4, Tryd.ntmps4
    go_wp2_with fail
    refine G.out.mono ?_; rintro e w1 ⟨rfl, b1⟩
    go_wp2
    go_ret
    exact ⟨rfl, b1⟩
  | false =>
    rw [hg] at G
    obtain ⟨f1, f2, f3⟩ := great_noT hg
    have PJ := Lib.hid (join_any l hf)
    have RJ := Lib.hid (rjoin_any l hf)
    have hss : ((joinS l).toList == (joinS l).toList) = true := by simp
    have hee : (joinE l == joinE l) = true := by simp
    have SM : Hid (∀ v u w, StrsIn v l w → StrsIn u l w → Calls Tryd.prog 13 #[v, u] w fun e w' => e = .returned (.bool true) ∧ Below w.heap.size w w') := Lib.hid fun v u w h1 h2 => by
      have := tsame_any l l v u w h1 h2
      rwa [decide_eq_true rfl] at this
    generalize joinS l = S at *
    generalize joinE l = E at *
    have G := Lib.hid G
    have RM := Lib.hid (room_strs (l.length + 2) (by omega))
    have HV := Lib.hid hv
    clear hf hg f1 f3 hv
    go_enter Tryd.func4, Tryd.ntmps4
    go_wp2_with fail
    refine G.out.mono ?_; rintro e w1 ⟨rfl, b1⟩
    obtain ⟨m1, m2⟩ := RM.out w1
    rw [show ((l.length + 2 : Nat) : Int) = (l.length : Int) + 2 by omega] at m1
    have HM2 := Lib.hid m2
    have hv1 := HV.out.kept b1
    have hb0 := balloc1 w1 (.cells (madeCells #[.string ⟨#[]⟩] (l.length + 2)) 9)
    have hv2 := Lib.hid (hv1.kept hb0)
    obtain ⟨wm, hwm⟩ : ∃ wm, w1.alloc (.cells (madeCells #[.string ⟨#[]⟩] (l.length + 2)) 9) = wm := ⟨_, rfl⟩
    rw [hwm] at m1 HM2 hb0 hv2
    have hbm := bnext b1 hb0
    have hzm := hb0.size
    clear RM G m2 hv1 hwm
    go_wp2_with (at_builtin; refine wpList_appTM rfl _ _ rfl w1.heap.size (.slice (some ⟨w1.heap.size, 0, none⟩) 0 (l.length + 2)) [] rfl HM2.out (.slice ad l.length cap) l rfl hv2.out (by simp; omega) hzm ?_)
    intro v2 w2 hv2' b2
    obtain ⟨ad2, cap2, rfl, -⟩ := shape_of hv2'
    have hzb : w1.heap.size ≤ w2.heap.size := by have := b2.size; omega
    have hbw2 := hbm.trans (b2.mono b1.size)
    have HL2 := Lib.hid (World.ownsRow.alloc hv2' (.cells #[.string ⟨#[120, 47, 49]⟩, .string ⟨#[120, 47, 50]⟩] 9))
    have HE2 := Lib.hid (lit_inT w2 endsT #[.string ⟨#[120, 47, 49]⟩, .string ⟨#[120, 47, 50]⟩] (by decide) rfl)
    go_wp2_with (at_builtin; refine wpList_appTM rfl _ _ rfl w1.heap.size (.slice ad2 l.length cap2) l rfl HL2.out (.slice (some ⟨w2.heap.size, 0, none⟩) 2 2) endsT rfl HE2.out (by show l.length + 2 ≤ 40000; omega) (by rw [size_alloc]; omega) ?_)
    intro v3 w3 hv3 b3
    have hlen3 : (l ++ endsT).length = l.length + 2 := by rw [List.length_append]; rfl
    obtain ⟨ad3, cap3, e3, h31, h32, -⟩ := shape_of hv3
    rw [hlen3] at e3 h31
    subst e3
    have h32 : cap3 ≤ 9223372036854775807 := h32
    have hbw3 := (balloc hbw2 (.cells #[.string ⟨#[120, 47, 49]⟩, .string ⟨#[120, 47, 50]⟩] 9)).trans (b3.mono b1.size)
    have HT := Lib.hid (twin_inT (L := l) rfl hv3)
    obtain ⟨g, rfl, hg, -, -, c0, c1⟩ := twin_endsT (L := l) rfl hv3
    have hv3' := HV.out.kept hbw3
    have hl2 : l.length ≤ cap3 := by omega
    have hl3 : l.length + 2 ≤ cap3 := h31
    clear hv3 hv2' b2 b3 HL2 HE2 hb0 hbm hbw2 HM2 hv2 m1
    go_wp2_with fail
    refine (PJ.out _ _ HT.out).mono ?_; rintro e w4 ⟨rfl, b4⟩
    have HT4 := Lib.hid (HT.out.kept b4)
    have hv4 := hv3'.kept b4
    have hbw4 := bnext hbw3 b4
    have c0 := (b4.cell (p := ⟨g, l.length, none⟩) hg).trans c0
    have c1 := (b4.cell (p := ⟨g, l.length + 1, none⟩) hg).trans c1
    have hg := Nat.lt_of_lt_of_le hg b4.size
    clear b4 hbw3 hv3' HT
    go_wp2_with fail
    refine (RJ.out _ _ hv4).mono ?_; rintro e w5 ⟨rfl, b5⟩
    have HT5 := Lib.hid (HT4.out.kept b5)
    have hv5 := hv4.kept b5
    have hbw5 := bnext hbw4 b5
    have c0 := (b5.cell (p := ⟨g, l.length, none⟩) hg).trans c0
    have c1 := (b5.cell (p := ⟨g, l.length + 1, none⟩) hg).trans c1
    have hg := Nat.lt_of_lt_of_le hg b5.size
    clear b5 hbw4 hv4 HT4
    go_wp2_with fail
    refine (SM.out _ _ _ HT5.out hv5).mono ?_; rintro e w6 ⟨rfl, b6⟩
    have hbw6 := bnext hbw5 b6
    have c0 := (b6.cell (p := ⟨g, l.length, none⟩) hg).trans c0
    have c1 := (b6.cell (p := ⟨g, l.length + 1, none⟩) hg).trans c1
    clear b6 hbw5 hv5 HT5
    go_wp2_with fail
    refine (AL.out _).mono ?_; rintro e w7 ⟨rfl, b7⟩
    go_wp2
    go_ret
    exact ⟨rfl, bnext hbw6 b7⟩
end Go.Proofs.YtgjcdjcngepleaaDoor
