/- The document's Decode of a descriptor. -/
import Derived.Test.YtfgjogaoogiddaaKRDec3
import Derived.Test.YtfgjogaoogiddaaStepApp
namespace Go.Proofs.Ytfgjogaoogiddaa
set_option linter.unusedVariables false
set_option linter.unusedSimpArgs false
open Go.RowKit

theorem one_in (W : World) (x : Value) (t : TypeId) : RowIn 1 (.slice (some ⟨W.heap.size, 0, none⟩) 1 1) 1 [x] (W.alloc (.cells #[x] t)).drew :=
  ⟨rfl, some ⟨W.heap.size, 0, none⟩, 1, rfl, Nat.le_refl _, by unfold maxLen; omega, fun _ => ⟨W.heap.size, 0, rfl, by show _ < (W.alloc _).heap.size; rw [size_alloc]; omega, fun k u hk => by
    show (W.alloc (.cells #[x] t)).cell? _ = _
    rw [Nat.zero_add, World.cell?_alloc_mark]; simpa using hk⟩, fun h => by cases h⟩
theorem mark_fact (s : ByteArray) (n j a : Nat) (h : a < s.size) (e : a = 14 + 2 * n + j) : (((s[a]'h).toNat : Int) == 1) = decide (markOf s n j = 1) := by
  subst e
  have hx : markOf s n j = (s[14 + 2 * n + j]'h).toNat := byte_of s (14 + 2 * n + j) h
  rw [← hx]
  by_cases h0 : markOf s n j = 1
  · rw [h0]; rfl
  · rw [decide_eq_false h0, beq_eq_false_iff_ne]; omega
theorem row_same2 {B n : Nat} {v : Value} {e : TypeId} {z : Nat} {xs : List Value} {w w' : World} (h : w.ownsRow B e z v n xs) (he : ∀ j, B ≤ j → j < w.heap.size → w'.heap[j]? = w.heap[j]?) : w'.ownsRow B e z v n xs :=
  ⟨h.1, h.2.imp id fun ⟨g, cap, cur, a, b, c, r⟩ => ⟨g, cap, cur, a, b, (he g b (lt_of_block c)).trans c, r⟩⟩
set_option maxRecDepth 100000 in
set_option maxHeartbeats 4000000 in
theorem rdec_2 (s : ByteArray) (hz : s.size = 128) (hb : begB s = true) (h1 : kindOf s = 2) (w : World) :
    Calls Try.prog 15 #[.string s] w fun e w' => RDecRet s w e w' := by
  have gh : Try.prog.stoodInHeld 27 = false := by kernel_rfl
  have hb' : ((s.extract 0 4).toList == [71, 76, 74, 119]) = true := hb
  have hmax : s.size ≤ maxLen := by rw [hz]; unfold maxLen; omega
  have GS : Hid (∀ w, Calls Try.prog 31 #[.string s, .int .i64 5, .int .i64 8] w fun e w' => e = .returned (.tuple #[.int .u64 (leN (fieldAt s 5 8) : Int), .bool true]) ∧ w = w') := Lib.hid fun w => rget_yes s hmax 5 8 (by omega) (by omega) w
  have hk : (s[4]'(by omega)).toNat = kindOf s := (byte_of s 4 (by omega)).symm
  have hc : (s[13]'(by omega)).toNat = countOf s := (byte_of s 13 (by omega)).symm
  have hkb : kindOf s < 256 := leN_field_lt s 4 1
  have hcb : countOf s < 256 := leN_field_lt s 13 1
  have hqb : leN (fieldAt s 5 8) < 18446744073709551616 := by
    have q := leN_field_lt s 5 8
    have h4 : (256 : Nat) ^ 8 = 18446744073709551616 := by decide
    omega
  obtain ⟨T, c, EE, hw⟩ := rdec_ways s
  have hF : readF s = ⟨2, leN (fieldAt s 5 8), 0, homesOf s (min (countOf s) 40), marksOf1 s (countOf s) (min (countOf s) 24), 0⟩ := by unfold readF; simp [h1]
  rw [hF] at EE hw
  have GH : Hid (∀ k : Nat, k < 40 → ∀ w, Calls Try.prog 31 #[.string s, .int .i64 (14 + 2 * (k : Int)), .int .i64 2] w fun e w' => e = .returned (.tuple #[.int .u64 (homeOf s k : Int), .bool true]) ∧ w = w') := Lib.hid fun k hk w => rget_yes s hmax (14 + 2 * k) 2 (by omega) (by omega) w
  have hhb : ∀ k, homeOf s k < 65536 := fun k => leN_field_lt s (14 + 2 * k) 2
  rw [h1] at hk hkb
  have hw := Lib.hid hw
  generalize leN (fieldAt s 5 8) = seq at *
  have HHB := Lib.hid hhb
  clear h1 hhb
  obtain ⟨w0, hw0⟩ : ∃ w0, (w.alloc (.cells zC 27)).alloc (.cells #[.int .i64 (2), .int .u64 (seq : Int), .int .i64 (0), .slice none 0 0, .slice none 0 0, .int .u32 (0)] 27) = w0 := ⟨_, rfl⟩
  have HB : Hid (Below w.heap.size w w0) := Lib.hid (by rw [← hw0]; exact balloc (balloc1 w _) _)
  have HZ : Hid (Blk w.heap.size zC 27 w0) := Lib.hid (by rw [← hw0]; exact (Blk.new _ _ w).kept1 (balloc1 _ _))
  have HR : Hid (RecAt (w.heap.size + 1) (2) seq (0) (.slice none 0 0) (.slice none 0 0) 0 w0) := Lib.hid (by
    rw [← hw0]
    have := Blk.new #[.int .i64 (2), .int .u64 (seq : Int), .int .i64 (0), .slice none 0 0, .slice none 0 0, .int .u32 (0)] 27 (w.alloc (.cells zC 27))
    rw [size_alloc] at this
    exact this)
  have HS0 : Hid (w0.heap.size = w.heap.size + 2) := Lib.hid (by rw [← hw0, size_alloc, size_alloc])
  have HW0 := Lib.hid hw0
  have EE := Lib.hid EE
  have HC := Lib.hid hc
  obtain ⟨n, hn⟩ : ∃ n, countOf s = n := ⟨_, rfl⟩
  rw [hn] at hc hcb
  have HN := Lib.hid hn
  clear hw0 hF hmax hb hn
  go_enter Try.func15, Try.ntmps15
  go_wp2_with fail
  refine (GS.out _).mono ?_; rintro e w1 ⟨rfl, rfl⟩
  go_wp2
  rw [HW0.out]
  have HZ0 := HZ.out
  have HR0 := HR.out
  have HB0 := HB.out
  clear HW0
  go_loopw [12] (fun q wr => ∃ (k : Nat) (vh : Value), q = .int .i64 k ∧ k ≤ n ∧ k ≤ 40 ∧ RecAt (w.heap.size + 1) 2 seq 0 vh (.slice none 0 0) 0 wr ∧ Blk w.heap.size zC 27 wr ∧ IntsOwn w0.heap.size vh (homesOf s k) wr ∧ Below w.heap.size w wr ∧ w0.heap.size ≤ wr.heap.size) (fun q _ => n - (intOf q).toNat)
  case atStart => exact ⟨0, _, rfl, Nat.zero_le _, by omega, HR0, HZ0, World.ownsRow_nil _ _ _ _, HB0, Nat.le_refl _⟩
  case round =>
    clear HZ0 HR0 HB0
    obtain ⟨k, vh, rfl, hkn, hk40, HR1, HZ1, hown, hb1, hsz⟩ := hrel
    by_cases hlt : k < n ∧ k < 40
    · obtain ⟨hlt1, hlt2⟩ := hlt
      obtain ⟨ah, ch, hvh, -⟩ := shape_of hown
      rw [homesOf_length] at hvh
      subst hvh
      have HW := Lib.hid hown
      have HS := Lib.hid (homesOf_succ s k)
      have hhv := HHB.out k
      obtain ⟨x0, x1, x2, x3, x4, x5⟩ := rec_cells HR1
      have hs0 := HS0.out
      clear hown hs0
      go_wp2_with fail
      refine (GH.out k hlt2 _).mono ?_; rintro e w1 ⟨rfl, rfl⟩
      generalize homeOf s k = hv at *
      go_wp2_with (at_builtin; refine wpList_appI rfl _ _ rfl w0.heap.size _ _ (hv : Int) rfl (HW.out.alloc _) wr rfl rfl (by rw [homesOf_length]; omega) (by rw [size_alloc]; omega) ?_)
      intro v' w2 h2 b2
      have hs0 := HS0.out
      have HR2 := blk_step (HR1.kept1 (balloc1 wr (.cells #[.int .i64 (hv : Int)] 3))) b2 (by omega)
      have HZ2 := blk_step (HZ1.kept1 (balloc1 wr (.cells #[.int .i64 (hv : Int)] 3))) b2 (by omega)
      have hb2 : Below w.heap.size w w2 := (balloc hb1 (.cells #[.int .i64 (hv : Int)] 3)).trans (b2.mono (by omega))
      have hsz2 : w0.heap.size ≤ w2.heap.size := by have := b2.size; rw [size_alloc] at this; omega
      rw [← HS.out] at h2
      obtain ⟨a2, c2, hv2, -⟩ := shape_of h2
      rw [homesOf_length] at hv2
      subst hv2
      obtain ⟨w3, hw3⟩ : ∃ w3, w2.setCell ⟨w.heap.size + 1, 3, none⟩ (.slice a2 (k + 1) c2) = w3 := ⟨_, rfl⟩
      have HR3 : RecAt (w.heap.size + 1) 2 seq 0 (.slice a2 (k + 1) c2) (.slice none 0 0) 0 w3 := by rw [← hw3]; exact HR2.set 3 _
      have HZ3 : Blk w.heap.size zC 27 w3 := by rw [← hw3]; exact HZ2.other (by show w.heap.size + 1 ≠ w.heap.size; omega) _
      have h3 : IntsOwn w0.heap.size (.slice a2 (k + 1) c2) (homesOf s (k + 1)) w3 := row_same h2 fun j hj => by rw [← hw3]; exact Below.heap_setCell w2 _ _ j (by show j ≠ w.heap.size + 1; omega)
      have hb3 : Below w.heap.size w w3 := by rw [← hw3]; exact hb2.setCell (show w.heap.size ≤ w.heap.size + 1 by omega) _
      have hsz3 : w0.heap.size ≤ w3.heap.size := by rw [← hw3, size_set]; exact hsz2
      obtain ⟨y0, y1, y2, y3, y4, y5⟩ := rec_cells HR2
      have fz := fun j => HR2.frozen j
      have HO3 := Lib.hid (And.intro HR3 (And.intro HZ3 (And.intro h3 (And.intro hb3 hsz3))))
      clear HR1 HZ1 hb1 hsz HW x0 x1 x2 x3 x4 x5 b2 HR2 HZ2 hb2 hsz2 h2 HR3 HZ3 h3 hb3 hsz3 hs0 HS
      go_wp2
      exact ⟨⟨k + 1, _, by go_num, by omega, by omega, HO3.out.1, HO3.out.2.1, HO3.out.2.2.1, HO3.out.2.2.2.1, HO3.out.2.2.2.2⟩, by simp [intOf]; omega⟩
    · obtain ⟨hkm⟩ : Nonempty (k = min n 40) := ⟨by omega⟩
      obtain ⟨ah, ch, hvh, -⟩ := shape_of hown
      rw [homesOf_length] at hvh
      subst hvh
      obtain ⟨x0, x1, x2, x3, x4, x5⟩ := rec_cells HR1
      have HW := Lib.hid hown
      have HKM := Lib.hid hkm
      clear hown hkm
      obtain ⟨w1, rfl⟩ : ∃ w1, w1 = wr := ⟨_, rfl⟩
      have HZ1 := Lib.hid HZ1
      have HR1h := Lib.hid HR1
      have HB1 := Lib.hid hb1
      have HSZ := Lib.hid hsz
      have HTH := Lib.hid (And.intro HR1 (And.intro HZ1.out hb1))
      clear x0 x1 x2 x3 x4 x5 HR1 hb1
      by_cases hkn2 : k < n
      · have hk2 : ¬ k < 40 := by omega
        go_wp2
        go_loopw [15] (fun q wr => ∃ (j : Nat) (vm : Value), q = .int .i64 j ∧ j ≤ n ∧ j ≤ 24 ∧ RecAt (w.heap.size + 1) 2 seq 0 (.slice ah k ch) vm 0 wr ∧ Blk w.heap.size zC 27 wr ∧ Hid (∀ i, w0.heap.size ≤ i → i < w1.heap.size → wr.heap[i]? = w1.heap[i]?) ∧ BoolsOwn w1.heap.size vm (marksOf1 s n j) wr ∧ Below w.heap.size w wr ∧ w1.heap.size ≤ wr.heap.size) (fun q _ => n - (intOf q).toNat)
        case atStart => exact ⟨0, _, rfl, Nat.zero_le _, by omega, HTH.out.1, HTH.out.2.1, Lib.hid (fun _ _ _ => rfl), World.ownsRow_nil _ _ _ _, HTH.out.2.2, Nat.le_refl _⟩
        case round =>
          clear HTH
          obtain ⟨j, vm, rfl, hjn, hj24, HR2, HZ2, HF, hown, hb2, hsz2⟩ := hrel
          obtain ⟨am, cm, hvm, -⟩ := shape_of hown
          rw [marksOf1_length] at hvm
          subst hvm
          obtain ⟨x0, x1, x2, x3, x4, x5⟩ := rec_cells HR2
          by_cases hlt : j < n ∧ j < 24
          · obtain ⟨hlt1, hlt2⟩ := hlt
            have HW2 := Lib.hid hown
            have HS2 := Lib.hid (marksOf1_succ s n j)
            have hw1 : IntKind.i64.wrap (2 * (n : Int)) = 2 * (n : Int) := IntWalk.i64_in _ (by omega)
            have hw2 : IntKind.i64.wrap (14 + 2 * (n : Int)) = 14 + 2 * (n : Int) := IntWalk.i64_in _ (by omega)
            have hw3 : IntKind.i64.wrap (14 + 2 * (n : Int) + (j : Int)) = 14 + 2 * (n : Int) + (j : Int) := IntWalk.i64_in _ (by omega)
            have hs0 := HS0.out
            have hszw := HSZ.out
            have hltb : w.heap.size + 1 < wr.heap.size := by omega
            have CB : Hid (∀ (u : Obj) (w2 : World), Below w1.heap.size (wr.alloc u).drew w2 → w2.cell? ⟨w.heap.size + 1, 4, none⟩ = some (.slice am j cm) ∧ w2.frozen? ⟨w.heap.size + 1, 4, none⟩ = false ∧ w2.cell? ⟨w.heap.size + 1, 0, none⟩ = some (.int .i64 2)) := Lib.hid (fun u w2 b => by
              have h := blk_step (HR2.kept1 (balloc1 wr u).drew) b (by omega)
              exact ⟨(rec_cells h).2.2.2.2.1, h.frozen 4, (rec_cells h).1⟩)
            have CK : Hid (∀ u : Obj, (wr.alloc u).drew.cell? ⟨w.heap.size + 1, 0, none⟩ = some (.int .i64 2)) := Lib.hid (fun u => (rec_cells (HR2.kept1 (balloc1 wr u).drew)).1)
            have CK0 : wr.drew.cell? ⟨w.heap.size + 1, 0, none⟩ = some (.int .i64 2) := x0
            have hsd : ∀ u, w1.heap.size ≤ (wr.alloc u).drew.heap.size := fun u => by
              show w1.heap.size ≤ (wr.alloc u).heap.size
              rw [size_alloc]; omega
            have HSD := Lib.hid hsd
            have mixed : Try.prog.follows .mixedOrders = true := by kernel_rfl
            clear hown hs0 hszw hsd
            by_cases hc : 14 + 2 * n + j < 128
            · have dc : decide (14 + 2 * (n : Int) + (j : Int) < 128) = true := decide_eq_true (by omega)
              have hin : (14 + 2 * (n : Int) + (j : Int)).toNat < s.size := by omega
              have hd := mark_fact s n j _ hin (by omega)
              obtain ⟨b, hbv⟩ : ∃ b, decide (markOf s n j = 1) = b := ⟨_, rfl⟩
              rw [hbv] at hd
              have HM0 : Hid ((decide (14 + 2 * n + j < 128) && decide (markOf s n j = 1)) = b) := Lib.hid (by rw [decide_eq_true hc, hbv]; rfl)
              have hi1 : (0 : Int) ≤ 14 + 2 * (n : Int) + (j : Int) := by omega
              have hi2 : 14 + 2 * (n : Int) + (j : Int) < 128 := by omega
              clear hbv
              have HX := Lib.hid (And.intro hd (And.intro dc (And.intro hi1 (And.intro hi2 (And.intro hw1 (And.intro hw2 (And.intro hw3 CK0)))))))
              clear hd dc hi1 hi2 hw1 hw2 hw3 CK0
              go_upto_region 23 with fail
              obtain ⟨hd, dc, hi1, hi2, hw1, hw2, hw3, CK0⟩ := HX.out
              obtain ⟨i9, hi9, hz9, hs9, hb9⟩ := info_parts kbool_info
              have hrow9 : (wr.alloc (.cells #[.bool b] 4)).drew.ownsRow w1.heap.size 4 1 (.slice am j cm) j ((marksOf1 s n j).map Value.bool) := by
                have := HW2.out.alloc (.cells #[.bool b] 4)
                rw [marksOf1_length] at this
                exact this
              obtain ⟨v', w2, hrun, h2, g2, -⟩ := run_append_own (P := Try.prog) (wr.alloc (.cells #[.bool b] 4)).drew w1.heap.size 24 24 4 i9 (.bool false) 1 1 Try.underlying24 hi9 hz9 hs9 hb9 rfl (by decide) (.slice am j cm) j ((marksOf1 s n j).map Value.bool) hrow9 ⟨wr.heap.size, 0, none⟩ 1 1 [.bool b] rfl (fun j u hj => by
                rw [add_at, Nat.zero_add]
                show (wr.alloc _).cell? _ = _
                rw [World.cell?_alloc_mark]; simpa using hj) (by simp [Value.oneCell']) (by unfold maxLen; omega) (by omega) (HSD.out _)
              have b2 : Below w1.heap.size (wr.alloc (.cells #[.bool b] 4)).drew w2 := below_of_row hrow9 g2 (HSD.out _)
              obtain ⟨cb2, fb2, cc2⟩ := CB.out _ w2 b2
              obtain ⟨a5, c5, e5, -⟩ := shape_of h2
              subst e5
              have y4 : (wr.alloc (.cells #[.bool b] 4)).drew.cell? ⟨w.heap.size + 1, 4, none⟩ = some (.slice am j cm) := (rec_cells (HR2.kept1 (balloc1 wr (.cells #[.bool b] 4)).drew)).2.2.2.2.1
              have y5 : wr.drew.cell? ⟨w.heap.size + 1, 4, none⟩ = some (.slice am j cm) := x4
              clear hrow9 hi9 hz9 hs9 hb9
              refine wp_region_held_drew (S := fun _ => True) mixed trivial (fun hHeld => ?_)
              clear hHeld
              refine wpAnyH_take (i := 0) (oi := _) (v := ?v9b0) rfl (by kernel_rfl) (by kernel_rfl) (by kernel_rfl) (fun _ _ _ h => h) (Or.inl ⟨by kernel_rfl, ?hy9b0⟩) trivial ?rest9b0
              case hy9b0 => (intro w9 hSw; clear hSw; go_simp; try with_reducible rfl)
              try simp only [Act.put, List.setIfInBounds_toArray, List.set_cons_zero, List.set_cons_succ]
              refine wpAnyH_take (i := 2) (oi := _) (v := ?v9b2) rfl (by kernel_rfl) (by kernel_rfl) (by kernel_rfl) (fun _ _ _ h => h) (Or.inl ⟨by kernel_rfl, ?hy9b2⟩) trivial ?rest9b2
              case hy9b2 => (intro w9 hSw; clear hSw; go_simp; try with_reducible rfl)
              try simp only [Act.put, List.setIfInBounds_toArray, List.set_cons_zero, List.set_cons_succ]
              refine wpAnyH_take (i := 3) (oi := _) (v := ?v9b3) rfl (by kernel_rfl) (by kernel_rfl) (by kernel_rfl) (fun _ _ _ h => h) (Or.inl ⟨by kernel_rfl, ?hy9b3⟩) trivial ?rest9b3
              case hy9b3 => (intro w9 hSw; clear hSw; go_simp; try with_reducible rfl)
              try simp only [Act.put, List.setIfInBounds_toArray, List.set_cons_zero, List.set_cons_succ]
              refine wpAnyH_take (i := 4) (oi := _) (v := ?v9b4) rfl (by kernel_rfl) (by kernel_rfl) (by kernel_rfl) (fun _ _ _ h => h) (Or.inl ⟨by kernel_rfl, ?hy9b4⟩) trivial ?rest9b4
              case hy9b4 => (intro w9 hSw; clear hSw; go_simp; try with_reducible rfl)
              try simp only [Act.put, List.setIfInBounds_toArray, List.set_cons_zero, List.set_cons_succ]
              refine wpAnyH_take (i := 5) (oi := _) (v := ?v9b5) rfl (by kernel_rfl) (by kernel_rfl) (by kernel_rfl) (fun _ _ _ h => h) (Or.inl ⟨by kernel_rfl, ?hy9b5⟩) trivial ?rest9b5
              case hy9b5 => (intro w9 hSw; clear hSw; go_simp; try with_reducible rfl)
              try simp only [Act.put, List.setIfInBounds_toArray, List.set_cons_zero, List.set_cons_succ]
              refine wpAnyH_take (i := 6) (oi := _) (v := ?v9b6) rfl (by kernel_rfl) (by kernel_rfl) (by kernel_rfl) (fun _ _ _ h => h) (Or.inl ⟨by kernel_rfl, ?hy9b6⟩) trivial ?rest9b6
              case hy9b6 => (intro w9 hSw; clear hSw; go_simp; try with_reducible rfl)
              try simp only [Act.put, List.setIfInBounds_toArray, List.set_cons_zero, List.set_cons_succ]
              refine wpAnyH_take (i := 7) (oi := _) (v := ?v9b7) rfl (by kernel_rfl) (by kernel_rfl) (by kernel_rfl) (fun _ _ _ h => h) (Or.inl ⟨by kernel_rfl, ?hy9b7⟩) trivial ?rest9b7
              case hy9b7 => (intro w9 hSw; clear hSw; go_simp; try with_reducible rfl)
              try simp only [Act.put, List.setIfInBounds_toArray, List.set_cons_zero, List.set_cons_succ]
              refine wpAnyH_take (i := 8) (oi := _) (v := ?v9b8) rfl (by kernel_rfl) (by kernel_rfl) (by kernel_rfl) (fun _ _ _ h => h) (Or.inl ⟨by kernel_rfl, ?hy9b8⟩) trivial ?rest9b8
              case hy9b8 => (intro w9 hSw; clear hSw; go_simp; try with_reducible rfl)
              try simp only [Act.put, List.setIfInBounds_toArray, List.set_cons_zero, List.set_cons_succ]
              refine wpAnyH_take (i := 9) (oi := _) (v := ?v9b9) rfl (by kernel_rfl) (by kernel_rfl) (by kernel_rfl) (fun _ _ _ h => h) (Or.inl ⟨by kernel_rfl, ?hy9b9⟩) trivial ?rest9b9
              case hy9b9 => (intro w9 hSw; clear hSw; go_simp; try with_reducible rfl)
              try simp only [Act.put, List.setIfInBounds_toArray, List.set_cons_zero, List.set_cons_succ]
              refine wpAnyH_take (i := 10) (oi := _) (v := ?v9b10) rfl (by kernel_rfl) (by kernel_rfl) (by kernel_rfl) (fun _ _ _ h => h) (Or.inl ⟨by kernel_rfl, ?hy9b10⟩) trivial ?rest9b10
              case hy9b10 => (intro w9 hSw; clear hSw; go_simp; try with_reducible rfl)
              try simp only [Act.put, List.setIfInBounds_toArray, List.set_cons_zero, List.set_cons_succ]
              refine wpAnyH_take (i := 11) (oi := _) (v := ?v9b11) rfl (by kernel_rfl) (by kernel_rfl) (by kernel_rfl) (fun _ _ _ h => h) (Or.inl ⟨by kernel_rfl, ?hy9b11⟩) trivial ?rest9b11
              case hy9b11 => (intro w9 hSw; clear hSw; go_simp; try with_reducible rfl)
              try simp only [Act.put, List.setIfInBounds_toArray, List.set_cons_zero, List.set_cons_succ]
              refine wpAnyH_take (i := 12) (oi := _) (v := ?v9b12) rfl (by kernel_rfl) (by kernel_rfl) (by kernel_rfl) (fun _ _ _ h => h) (Or.inl ⟨by kernel_rfl, ?hy9b12⟩) trivial ?rest9b12
              case hy9b12 => (intro w9 hSw; clear hSw; go_simp; try with_reducible rfl)
              try simp only [Act.put, List.setIfInBounds_toArray, List.set_cons_zero, List.set_cons_succ]
              refine wpAnyH_take (i := 13) (oi := _) (v := ?v9b13) rfl (by kernel_rfl) (by kernel_rfl) (by kernel_rfl) (fun _ _ _ h => h) (Or.inl ⟨by kernel_rfl, ?hy9b13⟩) trivial ?rest9b13
              case hy9b13 => (intro w9 hSw; clear hSw; go_simp; try with_reducible rfl)
              try simp only [Act.put, List.setIfInBounds_toArray, List.set_cons_zero, List.set_cons_succ]
              refine wpAnyH_take (i := 14) (oi := _) (v := ?v9b14) rfl (by kernel_rfl) (by kernel_rfl) (by kernel_rfl) (fun _ _ _ h => h) (Or.inl ⟨by kernel_rfl, ?hy9b14⟩) trivial ?rest9b14
              case hy9b14 => (intro w9 hSw; clear hSw; go_simp; try with_reducible rfl)
              try simp only [Act.put, List.setIfInBounds_toArray, List.set_cons_zero, List.set_cons_succ]
              refine wpAnyH_take (i := 15) (oi := _) (v := ?v9b15) rfl (by kernel_rfl) (by kernel_rfl) (by kernel_rfl) (fun _ _ _ h => h) (Or.inl ⟨by kernel_rfl, ?hy9b15⟩) trivial ?rest9b15
              case hy9b15 => (intro w9 hSw; clear hSw; go_simp; try with_reducible rfl)
              try simp only [Act.put, List.setIfInBounds_toArray, List.set_cons_zero, List.set_cons_succ]
              refine wpAnyH_take (i := 16) (oi := _) (v := ?v9b16) rfl (by kernel_rfl) (by kernel_rfl) (by kernel_rfl) (fun _ _ _ h => h) (Or.inl ⟨by kernel_rfl, ?hy9b16⟩) trivial ?rest9b16
              case hy9b16 => (intro w9 hSw; clear hSw; go_simp; try with_reducible rfl)
              try simp only [Act.put, List.setIfInBounds_toArray, List.set_cons_zero, List.set_cons_succ]
              refine wpAnyH_take (i := 17) (oi := _) (v := ?v9b17) rfl (by kernel_rfl) (by kernel_rfl) (by kernel_rfl) (fun _ _ _ h => h) (Or.inl ⟨by kernel_rfl, ?hy9b17⟩) trivial ?rest9b17
              case hy9b17 => (intro w9 hSw; clear hSw; go_simp; try with_reducible rfl)
              try simp only [Act.put, List.setIfInBounds_toArray, List.set_cons_zero, List.set_cons_succ]
              refine wpAnyH_take (i := 18) (oi := _) (v := ?v9b18) rfl (by kernel_rfl) (by kernel_rfl) (by kernel_rfl) (fun _ _ _ h => h) (Or.inl ⟨by kernel_rfl, ?hy9b18⟩) trivial ?rest9b18
              case hy9b18 => (intro w9 hSw; clear hSw; go_simp; try with_reducible rfl)
              try simp only [Act.put, List.setIfInBounds_toArray, List.set_cons_zero, List.set_cons_succ]
              refine wpAnyH_take (i := 19) (oi := _) (v := ?v9b19) rfl (by kernel_rfl) (by kernel_rfl) (by kernel_rfl) (fun _ _ _ h => h) (Or.inl ⟨by kernel_rfl, ?hy9b19⟩) trivial ?rest9b19
              case hy9b19 => (intro w9 hSw; clear hSw; go_simp; try with_reducible rfl)
              try simp only [Act.put, List.setIfInBounds_toArray, List.set_cons_zero, List.set_cons_succ]
              refine wpAnyH_ready (rs := [1, 20]) (by kernel_rfl) (by simp) ?_
              refine AllReadyH.cons (o := _) rfl (fun K hK => ?_) ?_
              · go_simp
                refine hK.out _ _ trivial (fun hHeld => ?_)
                clear hK K hHeld
                try simp only [Act.put, List.setIfInBounds_toArray, List.set_cons_zero, List.set_cons_succ]
                refine wpAnyH_ready (rs := [20]) (by kernel_rfl) (by simp) ?_
                refine AllReadyH.cons (o := _) rfl (fun K hK => ?_) ?_
                · go_simp
                  refine hK.out _ _ trivial (fun hHeld => ?_)
                  clear hK K hHeld
                  try simp only [Act.put, List.setIfInBounds_toArray, List.set_cons_zero, List.set_cons_succ]
                  refine wpAnyH_ready (rs := [21]) (by kernel_rfl) (by simp) ?_
                  refine AllReadyH.cons (o := _) rfl (fun K hK => ?_) ?_
                  · refine step_append rfl _ _ _ rfl rfl rfl hrun ?_
                    refine hK.out _ _ trivial (fun hHeld => ?_)
                    clear hK K hHeld
                    try simp only [Act.put, List.setIfInBounds_toArray, List.set_cons_zero, List.set_cons_succ]
                    refine wpAnyH_ready (rs := [22]) (by kernel_rfl) (by simp) ?_
                    refine AllReadyH.cons (o := _) rfl (fun K hK => ?_) ?_
                    · go_simp
                      refine hK.out _ _ trivial (fun hHeld => ?_)
                      clear hK K hHeld
                      try simp only [Act.put, List.setIfInBounds_toArray, List.set_cons_zero, List.set_cons_succ]
                      refine wpAnyH_ready (rs := [23]) (by kernel_rfl) (by simp) ?_
                      refine AllReadyH.cons (o := _) rfl (fun K hK => ?_) ?_
                      · go_simp
                        refine hK.out _ _ trivial (fun hHeld => ?_)
                        clear hK K hHeld
                        try simp only [Act.put, List.setIfInBounds_toArray, List.set_cons_zero, List.set_cons_succ]
                        refine ⟨by kernel_rfl, ?_⟩
                        have hs0 := HS0.out
                        have hszw := HSZ.out
                        have HR5 := blk_step (HR2.kept1 (balloc1 wr (.cells #[.bool b] 4)).drew) b2 (by omega)
                        have HZ5 := blk_step (HZ2.kept1 (balloc1 wr (.cells #[.bool b] 4)).drew) b2 (by omega)
                        have hb5 : Below w.heap.size w w2 := (balloc hb2 (.cells #[.bool b] 4)).drew.trans (b2.mono (by omega))
                        have hsz5 : w1.heap.size ≤ w2.heap.size := by have := b2.size; have := HSD.out (.cells #[.bool b] 4); omega
                        have hf5 : ∀ i, w0.heap.size ≤ i → i < w1.heap.size → w2.heap[i]? = w1.heap[i]? := fun i h1 h2 => (b2.block i h2).trans (((balloc1 wr (.cells #[.bool b] 4)).drew.block i (by omega)).trans (HF.out i h1 h2))
                        have hl5 : w2.ownsRow w1.heap.size 4 1 (.slice a5 (j + 1) c5) (j + 1) ((marksOf1 s n (j + 1)).map Value.bool) := by rw [HS2.out, HM0.out, List.map_append]; exact h2
                        obtain ⟨w3, hw3q⟩ : ∃ w3, w2.setCell ⟨w.heap.size + 1, 4, none⟩ (.slice a5 (j + 1) c5) = w3 := ⟨_, rfl⟩
                        have HR6 : RecAt (w.heap.size + 1) 2 seq 0 (.slice ah k ch) (.slice a5 (j + 1) c5) 0 w3 := by rw [← hw3q]; exact HR5.set 4 _
                        have HZ6 : Blk w.heap.size zC 27 w3 := by rw [← hw3q]; exact HZ5.other (by show w.heap.size + 1 ≠ w.heap.size; omega) _
                        have hl6 : BoolsOwn w1.heap.size (.slice a5 (j + 1) c5) (marksOf1 s n (j + 1)) w3 := by
                          unfold BoolsOwn
                          rw [marksOf1_length]
                          exact row_same hl5 fun i hi => by rw [← hw3q]; exact Below.heap_setCell w2 _ _ i (by show i ≠ w.heap.size + 1; omega)
                        have hb6 : Below w.heap.size w w3 := by rw [← hw3q]; exact hb5.setCell (show w.heap.size ≤ w.heap.size + 1 by omega) _
                        have hsz6 : w1.heap.size ≤ w3.heap.size := by rw [← hw3q, size_set]; exact hsz5
                        have hf6 : Hid (∀ i, w0.heap.size ≤ i → i < w1.heap.size → w3.heap[i]? = w1.heap[i]?) := Lib.hid fun i h1 h2 => by rw [← hw3q]; exact (Below.heap_setCell w2 _ _ i (by show i ≠ w.heap.size + 1; omega)).trans (hf5 i h1 h2)
                        rw [hw3q]
                        have HO6 := Lib.hid (And.intro HR6 (And.intro HZ6 (And.intro hl6 (And.intro hb6 hsz6))))
                        clear HR5 HZ5 hb5 hsz5 hf5 hl5 HR6 HZ6 hl6 hb6 hsz6 hw3q h2 g2 b2 cb2 fb2 cc2 y4 y5 hrun hd dc CK0 HX x0 x1 x2 x3 x4 x5 HR2 HZ2 hb2 hs0 hszw
                        go_wp2
                        exact ⟨⟨j + 1, _, by go_num, by omega, by omega, HO6.out.1, HO6.out.2.1, hf6, HO6.out.2.2.1, HO6.out.2.2.2.1, HO6.out.2.2.2.2⟩, by simp [intOf]; omega⟩
                      exact AllReadyH.nil
                    exact AllReadyH.nil
                  exact AllReadyH.nil
                exact AllReadyH.nil
              refine AllReadyH.cons (o := _) rfl (fun K hK => ?_) ?_
              · go_simp
                refine hK.out _ _ trivial (fun hHeld => ?_)
                clear hK K hHeld
                try simp only [Act.put, List.setIfInBounds_toArray, List.set_cons_zero, List.set_cons_succ]
                refine wpAnyH_ready (rs := [1]) (by kernel_rfl) (by simp) ?_
                refine AllReadyH.cons (o := _) rfl (fun K hK => ?_) ?_
                · go_simp
                  refine hK.out _ _ trivial (fun hHeld => ?_)
                  clear hK K hHeld
                  try simp only [Act.put, List.setIfInBounds_toArray, List.set_cons_zero, List.set_cons_succ]
                  refine wpAnyH_ready (rs := [21]) (by kernel_rfl) (by simp) ?_
                  refine AllReadyH.cons (o := _) rfl (fun K hK => ?_) ?_
                  · refine step_append rfl _ _ _ rfl rfl rfl hrun ?_
                    refine hK.out _ _ trivial (fun hHeld => ?_)
                    clear hK K hHeld
                    try simp only [Act.put, List.setIfInBounds_toArray, List.set_cons_zero, List.set_cons_succ]
                    refine wpAnyH_ready (rs := [22]) (by kernel_rfl) (by simp) ?_
                    refine AllReadyH.cons (o := _) rfl (fun K hK => ?_) ?_
                    · go_simp
                      refine hK.out _ _ trivial (fun hHeld => ?_)
                      clear hK K hHeld
                      try simp only [Act.put, List.setIfInBounds_toArray, List.set_cons_zero, List.set_cons_succ]
                      refine wpAnyH_ready (rs := [23]) (by kernel_rfl) (by simp) ?_
                      refine AllReadyH.cons (o := _) rfl (fun K hK => ?_) ?_
                      · go_simp
                        refine hK.out _ _ trivial (fun hHeld => ?_)
                        clear hK K hHeld
                        try simp only [Act.put, List.setIfInBounds_toArray, List.set_cons_zero, List.set_cons_succ]
                        refine ⟨by kernel_rfl, ?_⟩
                        have hs0 := HS0.out
                        have hszw := HSZ.out
                        have HR5 := blk_step (HR2.kept1 (balloc1 wr (.cells #[.bool b] 4)).drew) b2 (by omega)
                        have HZ5 := blk_step (HZ2.kept1 (balloc1 wr (.cells #[.bool b] 4)).drew) b2 (by omega)
                        have hb5 : Below w.heap.size w w2 := (balloc hb2 (.cells #[.bool b] 4)).drew.trans (b2.mono (by omega))
                        have hsz5 : w1.heap.size ≤ w2.heap.size := by have := b2.size; have := HSD.out (.cells #[.bool b] 4); omega
                        have hf5 : ∀ i, w0.heap.size ≤ i → i < w1.heap.size → w2.heap[i]? = w1.heap[i]? := fun i h1 h2 => (b2.block i h2).trans (((balloc1 wr (.cells #[.bool b] 4)).drew.block i (by omega)).trans (HF.out i h1 h2))
                        have hl5 : w2.ownsRow w1.heap.size 4 1 (.slice a5 (j + 1) c5) (j + 1) ((marksOf1 s n (j + 1)).map Value.bool) := by rw [HS2.out, HM0.out, List.map_append]; exact h2
                        obtain ⟨w3, hw3q⟩ : ∃ w3, w2.setCell ⟨w.heap.size + 1, 4, none⟩ (.slice a5 (j + 1) c5) = w3 := ⟨_, rfl⟩
                        have HR6 : RecAt (w.heap.size + 1) 2 seq 0 (.slice ah k ch) (.slice a5 (j + 1) c5) 0 w3 := by rw [← hw3q]; exact HR5.set 4 _
                        have HZ6 : Blk w.heap.size zC 27 w3 := by rw [← hw3q]; exact HZ5.other (by show w.heap.size + 1 ≠ w.heap.size; omega) _
                        have hl6 : BoolsOwn w1.heap.size (.slice a5 (j + 1) c5) (marksOf1 s n (j + 1)) w3 := by
                          unfold BoolsOwn
                          rw [marksOf1_length]
                          exact row_same hl5 fun i hi => by rw [← hw3q]; exact Below.heap_setCell w2 _ _ i (by show i ≠ w.heap.size + 1; omega)
                        have hb6 : Below w.heap.size w w3 := by rw [← hw3q]; exact hb5.setCell (show w.heap.size ≤ w.heap.size + 1 by omega) _
                        have hsz6 : w1.heap.size ≤ w3.heap.size := by rw [← hw3q, size_set]; exact hsz5
                        have hf6 : Hid (∀ i, w0.heap.size ≤ i → i < w1.heap.size → w3.heap[i]? = w1.heap[i]?) := Lib.hid fun i h1 h2 => by rw [← hw3q]; exact (Below.heap_setCell w2 _ _ i (by show i ≠ w.heap.size + 1; omega)).trans (hf5 i h1 h2)
                        rw [hw3q]
                        have HO6 := Lib.hid (And.intro HR6 (And.intro HZ6 (And.intro hl6 (And.intro hb6 hsz6))))
                        clear HR5 HZ5 hb5 hsz5 hf5 hl5 HR6 HZ6 hl6 hb6 hsz6 hw3q h2 g2 b2 cb2 fb2 cc2 y4 y5 hrun hd dc CK0 HX x0 x1 x2 x3 x4 x5 HR2 HZ2 hb2 hs0 hszw
                        go_wp2
                        exact ⟨⟨j + 1, _, by go_num, by omega, by omega, HO6.out.1, HO6.out.2.1, hf6, HO6.out.2.2.1, HO6.out.2.2.2.1, HO6.out.2.2.2.2⟩, by simp [intOf]; omega⟩
                      exact AllReadyH.nil
                    exact AllReadyH.nil
                  exact AllReadyH.nil
                exact AllReadyH.nil
              exact AllReadyH.nil
            · have dc : decide (14 + 2 * (n : Int) + (j : Int) < 128) = false := decide_eq_false (by omega)
              have HM0 : Hid ((decide (14 + 2 * n + j < 128) && decide (markOf s n j = 1)) = false) := Lib.hid (by rw [decide_eq_false hc]; rfl)
              have dc2 : decide (14 + 2 * (n : Int) + (j : Int) < (s.size : Int)) = false := decide_eq_false (by omega)
              have hi2 : (128 : Int) ≤ 14 + 2 * (n : Int) + (j : Int) := by omega
              have hi3 : ¬ (14 + 2 * (n : Int) + (j : Int) < 128) := by omega
              have hi4 : ¬ (14 + 2 * (n : Int) + (j : Int) < (s.size : Int)) := by omega
              have HX := Lib.hid (And.intro dc (And.intro (And.intro dc2 (And.intro hi2 (And.intro hi3 hi4))) (And.intro hw1 (And.intro hw2 (And.intro hw3 CK0)))))
              clear dc dc2 hi2 hi3 hi4 hw1 hw2 hw3 CK0
              go_upto_region 23 with fail
              obtain ⟨dc, ⟨dc2, hi2, hi3, hi4⟩, hw1, hw2, hw3, CK0⟩ := HX.out
              obtain ⟨i9, hi9, hz9, hs9, hb9⟩ := info_parts kbool_info
              have hrow9 : (wr.alloc (.cells #[.bool false] 4)).drew.ownsRow w1.heap.size 4 1 (.slice am j cm) j ((marksOf1 s n j).map Value.bool) := by
                have := HW2.out.alloc (.cells #[.bool false] 4)
                rw [marksOf1_length] at this
                exact this
              obtain ⟨v', w2, hrun, h2, g2, -⟩ := run_append_own (P := Try.prog) (wr.alloc (.cells #[.bool false] 4)).drew w1.heap.size 24 24 4 i9 (.bool false) 1 1 Try.underlying24 hi9 hz9 hs9 hb9 rfl (by decide) (.slice am j cm) j ((marksOf1 s n j).map Value.bool) hrow9 ⟨wr.heap.size, 0, none⟩ 1 1 [.bool false] rfl (fun j u hj => by
                rw [add_at, Nat.zero_add]
                show (wr.alloc _).cell? _ = _
                rw [World.cell?_alloc_mark]; simpa using hj) (by simp [Value.oneCell']) (by unfold maxLen; omega) (by omega) (HSD.out _)
              have b2 : Below w1.heap.size (wr.alloc (.cells #[.bool false] 4)).drew w2 := below_of_row hrow9 g2 (HSD.out _)
              obtain ⟨cb2, fb2, cc2⟩ := CB.out _ w2 b2
              obtain ⟨a5, c5, e5, -⟩ := shape_of h2
              subst e5
              have y4 : (wr.alloc (.cells #[.bool false] 4)).drew.cell? ⟨w.heap.size + 1, 4, none⟩ = some (.slice am j cm) := (rec_cells (HR2.kept1 (balloc1 wr (.cells #[.bool false] 4)).drew)).2.2.2.2.1
              have y5 : wr.drew.cell? ⟨w.heap.size + 1, 4, none⟩ = some (.slice am j cm) := x4
              clear hrow9 hi9 hz9 hs9 hb9
              refine wp_region_held_drew (S := fun _ => True) mixed trivial (fun hHeld => ?_)
              clear hHeld
              refine wpAnyH_take (i := 0) (oi := _) (v := ?v9c0) rfl (by kernel_rfl) (by kernel_rfl) (by kernel_rfl) (fun _ _ _ h => h) (Or.inl ⟨by kernel_rfl, ?hy9c0⟩) trivial ?rest9c0
              case hy9c0 => (intro w9 hSw; clear hSw; go_simp; try with_reducible rfl)
              try simp only [Act.put, List.setIfInBounds_toArray, List.set_cons_zero, List.set_cons_succ]
              refine wpAnyH_take (i := 2) (oi := _) (v := ?v9c2) rfl (by kernel_rfl) (by kernel_rfl) (by kernel_rfl) (fun _ _ _ h => h) (Or.inl ⟨by kernel_rfl, ?hy9c2⟩) trivial ?rest9c2
              case hy9c2 => (intro w9 hSw; clear hSw; go_simp; try with_reducible rfl)
              try simp only [Act.put, List.setIfInBounds_toArray, List.set_cons_zero, List.set_cons_succ]
              refine wpAnyH_take (i := 3) (oi := _) (v := ?v9c3) rfl (by kernel_rfl) (by kernel_rfl) (by kernel_rfl) (fun _ _ _ h => h) (Or.inl ⟨by kernel_rfl, ?hy9c3⟩) trivial ?rest9c3
              case hy9c3 => (intro w9 hSw; clear hSw; go_simp; try with_reducible rfl)
              try simp only [Act.put, List.setIfInBounds_toArray, List.set_cons_zero, List.set_cons_succ]
              refine wpAnyH_take (i := 4) (oi := _) (v := ?v9c4) rfl (by kernel_rfl) (by kernel_rfl) (by kernel_rfl) (fun _ _ _ h => h) (Or.inl ⟨by kernel_rfl, ?hy9c4⟩) trivial ?rest9c4
              case hy9c4 => (intro w9 hSw; clear hSw; go_simp; try with_reducible rfl)
              try simp only [Act.put, List.setIfInBounds_toArray, List.set_cons_zero, List.set_cons_succ]
              refine wpAnyH_take (i := 5) (oi := _) (v := ?v9c5) rfl (by kernel_rfl) (by kernel_rfl) (by kernel_rfl) (fun _ _ _ h => h) (Or.inl ⟨by kernel_rfl, ?hy9c5⟩) trivial ?rest9c5
              case hy9c5 => (intro w9 hSw; clear hSw; go_simp; try with_reducible rfl)
              try simp only [Act.put, List.setIfInBounds_toArray, List.set_cons_zero, List.set_cons_succ]
              refine wpAnyH_take (i := 6) (oi := _) (v := ?v9c6) rfl (by kernel_rfl) (by kernel_rfl) (by kernel_rfl) (fun _ _ _ h => h) (Or.inl ⟨by kernel_rfl, ?hy9c6⟩) trivial ?rest9c6
              case hy9c6 => (intro w9 hSw; clear hSw; go_simp; try with_reducible rfl)
              try simp only [Act.put, List.setIfInBounds_toArray, List.set_cons_zero, List.set_cons_succ]
              refine wpAnyH_take (i := 7) (oi := _) (v := ?v9c7) rfl (by kernel_rfl) (by kernel_rfl) (by kernel_rfl) (fun _ _ _ h => h) (Or.inl ⟨by kernel_rfl, ?hy9c7⟩) trivial ?rest9c7
              case hy9c7 => (intro w9 hSw; clear hSw; go_simp; try with_reducible rfl)
              try simp only [Act.put, List.setIfInBounds_toArray, List.set_cons_zero, List.set_cons_succ]
              refine wpAnyH_take (i := 8) (oi := _) (v := ?v9c8) rfl (by kernel_rfl) (by kernel_rfl) (by kernel_rfl) (fun _ _ _ h => h) (Or.inl ⟨by kernel_rfl, ?hy9c8⟩) trivial ?rest9c8
              case hy9c8 => (intro w9 hSw; clear hSw; go_simp; try with_reducible rfl)
              try simp only [Act.put, List.setIfInBounds_toArray, List.set_cons_zero, List.set_cons_succ]
              refine wpAnyH_take (i := 9) (oi := _) (v := ?v9c9) rfl (by kernel_rfl) (by kernel_rfl) (by kernel_rfl) (fun _ _ _ h => h) (Or.inl ⟨by kernel_rfl, ?hy9c9⟩) trivial ?rest9c9
              case hy9c9 => (intro w9 hSw; clear hSw; go_simp; try with_reducible rfl)
              try simp only [Act.put, List.setIfInBounds_toArray, List.set_cons_zero, List.set_cons_succ]
              refine wpAnyH_take (i := 10) (oi := _) (v := ?v9c10) rfl (by kernel_rfl) (by kernel_rfl) (by kernel_rfl) (fun _ _ _ h => h) (Or.inl ⟨by kernel_rfl, ?hy9c10⟩) trivial ?rest9c10
              case hy9c10 => (intro w9 hSw; clear hSw; go_simp; try with_reducible rfl)
              try simp only [Act.put, List.setIfInBounds_toArray, List.set_cons_zero, List.set_cons_succ]
              refine wpAnyH_take (i := 11) (oi := _) (v := undef) rfl (by kernel_rfl) (by kernel_rfl) (by kernel_rfl) (fun _ _ _ h => h) (Or.inr ⟨by kernel_rfl, rfl⟩) trivial ?rest9c11
              try simp only [Act.put, List.setIfInBounds_toArray, List.set_cons_zero, List.set_cons_succ]
              refine wpAnyH_take (i := 12) (oi := _) (v := undef) rfl (by kernel_rfl) (by kernel_rfl) (by kernel_rfl) (fun _ _ _ h => h) (Or.inr ⟨by kernel_rfl, rfl⟩) trivial ?rest9c12
              try simp only [Act.put, List.setIfInBounds_toArray, List.set_cons_zero, List.set_cons_succ]
              refine wpAnyH_take (i := 13) (oi := _) (v := undef) rfl (by kernel_rfl) (by kernel_rfl) (by kernel_rfl) (fun _ _ _ h => h) (Or.inr ⟨by kernel_rfl, rfl⟩) trivial ?rest9c13
              try simp only [Act.put, List.setIfInBounds_toArray, List.set_cons_zero, List.set_cons_succ]
              refine wpAnyH_take (i := 14) (oi := _) (v := undef) rfl (by kernel_rfl) (by kernel_rfl) (by kernel_rfl) (fun _ _ _ h => h) (Or.inr ⟨by kernel_rfl, rfl⟩) trivial ?rest9c14
              try simp only [Act.put, List.setIfInBounds_toArray, List.set_cons_zero, List.set_cons_succ]
              refine wpAnyH_take (i := 15) (oi := _) (v := undef) rfl (by kernel_rfl) (by kernel_rfl) (by kernel_rfl) (fun _ _ _ h => h) (Or.inr ⟨by kernel_rfl, rfl⟩) trivial ?rest9c15
              try simp only [Act.put, List.setIfInBounds_toArray, List.set_cons_zero, List.set_cons_succ]
              refine wpAnyH_take (i := 16) (oi := _) (v := undef) rfl (by kernel_rfl) (by kernel_rfl) (by kernel_rfl) (fun _ _ _ h => h) (Or.inr ⟨by kernel_rfl, rfl⟩) trivial ?rest9c16
              try simp only [Act.put, List.setIfInBounds_toArray, List.set_cons_zero, List.set_cons_succ]
              refine wpAnyH_take (i := 17) (oi := _) (v := undef) rfl (by kernel_rfl) (by kernel_rfl) (by kernel_rfl) (fun _ _ _ h => h) (Or.inr ⟨by kernel_rfl, rfl⟩) trivial ?rest9c17
              try simp only [Act.put, List.setIfInBounds_toArray, List.set_cons_zero, List.set_cons_succ]
              refine wpAnyH_take (i := 18) (oi := _) (v := undef) rfl (by kernel_rfl) (by kernel_rfl) (by kernel_rfl) (fun _ _ _ h => h) (Or.inr ⟨by kernel_rfl, rfl⟩) trivial ?rest9c18
              try simp only [Act.put, List.setIfInBounds_toArray, List.set_cons_zero, List.set_cons_succ]
              refine wpAnyH_take (i := 19) (oi := _) (v := ?v9c19) rfl (by kernel_rfl) (by kernel_rfl) (by kernel_rfl) (fun _ _ _ h => h) (Or.inl ⟨by kernel_rfl, ?hy9c19⟩) trivial ?rest9c19
              case hy9c19 => (intro w9 hSw; clear hSw; go_simp; try with_reducible rfl)
              try simp only [Act.put, List.setIfInBounds_toArray, List.set_cons_zero, List.set_cons_succ]
              refine wpAnyH_ready (rs := [1, 20]) (by kernel_rfl) (by simp) ?_
              refine AllReadyH.cons (o := _) rfl (fun K hK => ?_) ?_
              · go_simp
                refine hK.out _ _ trivial (fun hHeld => ?_)
                clear hK K hHeld
                try simp only [Act.put, List.setIfInBounds_toArray, List.set_cons_zero, List.set_cons_succ]
                refine wpAnyH_ready (rs := [20]) (by kernel_rfl) (by simp) ?_
                refine AllReadyH.cons (o := _) rfl (fun K hK => ?_) ?_
                · go_simp
                  refine hK.out _ _ trivial (fun hHeld => ?_)
                  clear hK K hHeld
                  try simp only [Act.put, List.setIfInBounds_toArray, List.set_cons_zero, List.set_cons_succ]
                  refine wpAnyH_ready (rs := [21]) (by kernel_rfl) (by simp) ?_
                  refine AllReadyH.cons (o := _) rfl (fun K hK => ?_) ?_
                  · refine step_append rfl _ _ _ rfl rfl rfl hrun ?_
                    refine hK.out _ _ trivial (fun hHeld => ?_)
                    clear hK K hHeld
                    try simp only [Act.put, List.setIfInBounds_toArray, List.set_cons_zero, List.set_cons_succ]
                    refine wpAnyH_ready (rs := [22]) (by kernel_rfl) (by simp) ?_
                    refine AllReadyH.cons (o := _) rfl (fun K hK => ?_) ?_
                    · go_simp
                      refine hK.out _ _ trivial (fun hHeld => ?_)
                      clear hK K hHeld
                      try simp only [Act.put, List.setIfInBounds_toArray, List.set_cons_zero, List.set_cons_succ]
                      refine wpAnyH_ready (rs := [23]) (by kernel_rfl) (by simp) ?_
                      refine AllReadyH.cons (o := _) rfl (fun K hK => ?_) ?_
                      · go_simp
                        refine hK.out _ _ trivial (fun hHeld => ?_)
                        clear hK K hHeld
                        try simp only [Act.put, List.setIfInBounds_toArray, List.set_cons_zero, List.set_cons_succ]
                        refine ⟨by kernel_rfl, ?_⟩
                        have hs0 := HS0.out
                        have hszw := HSZ.out
                        have HR5 := blk_step (HR2.kept1 (balloc1 wr (.cells #[.bool false] 4)).drew) b2 (by omega)
                        have HZ5 := blk_step (HZ2.kept1 (balloc1 wr (.cells #[.bool false] 4)).drew) b2 (by omega)
                        have hb5 : Below w.heap.size w w2 := (balloc hb2 (.cells #[.bool false] 4)).drew.trans (b2.mono (by omega))
                        have hsz5 : w1.heap.size ≤ w2.heap.size := by have := b2.size; have := HSD.out (.cells #[.bool false] 4); omega
                        have hf5 : ∀ i, w0.heap.size ≤ i → i < w1.heap.size → w2.heap[i]? = w1.heap[i]? := fun i h1 h2 => (b2.block i h2).trans (((balloc1 wr (.cells #[.bool false] 4)).drew.block i (by omega)).trans (HF.out i h1 h2))
                        have hl5 : w2.ownsRow w1.heap.size 4 1 (.slice a5 (j + 1) c5) (j + 1) ((marksOf1 s n (j + 1)).map Value.bool) := by rw [HS2.out, HM0.out, List.map_append]; exact h2
                        obtain ⟨w3, hw3q⟩ : ∃ w3, w2.setCell ⟨w.heap.size + 1, 4, none⟩ (.slice a5 (j + 1) c5) = w3 := ⟨_, rfl⟩
                        have HR6 : RecAt (w.heap.size + 1) 2 seq 0 (.slice ah k ch) (.slice a5 (j + 1) c5) 0 w3 := by rw [← hw3q]; exact HR5.set 4 _
                        have HZ6 : Blk w.heap.size zC 27 w3 := by rw [← hw3q]; exact HZ5.other (by show w.heap.size + 1 ≠ w.heap.size; omega) _
                        have hl6 : BoolsOwn w1.heap.size (.slice a5 (j + 1) c5) (marksOf1 s n (j + 1)) w3 := by
                          unfold BoolsOwn
                          rw [marksOf1_length]
                          exact row_same hl5 fun i hi => by rw [← hw3q]; exact Below.heap_setCell w2 _ _ i (by show i ≠ w.heap.size + 1; omega)
                        have hb6 : Below w.heap.size w w3 := by rw [← hw3q]; exact hb5.setCell (show w.heap.size ≤ w.heap.size + 1 by omega) _
                        have hsz6 : w1.heap.size ≤ w3.heap.size := by rw [← hw3q, size_set]; exact hsz5
                        have hf6 : Hid (∀ i, w0.heap.size ≤ i → i < w1.heap.size → w3.heap[i]? = w1.heap[i]?) := Lib.hid fun i h1 h2 => by rw [← hw3q]; exact (Below.heap_setCell w2 _ _ i (by show i ≠ w.heap.size + 1; omega)).trans (hf5 i h1 h2)
                        rw [hw3q]
                        have HO6 := Lib.hid (And.intro HR6 (And.intro HZ6 (And.intro hl6 (And.intro hb6 hsz6))))
                        clear dc2 hi2 hi3 hi4 HR5 HZ5 hb5 hsz5 hf5 hl5 HR6 HZ6 hl6 hb6 hsz6 hw3q h2 g2 b2 cb2 fb2 cc2 y4 y5 hrun dc CK0 HX x0 x1 x2 x3 x4 x5 HR2 HZ2 hb2 hs0 hszw
                        go_wp2
                        exact ⟨⟨j + 1, _, by go_num, by omega, by omega, HO6.out.1, HO6.out.2.1, hf6, HO6.out.2.2.1, HO6.out.2.2.2.1, HO6.out.2.2.2.2⟩, by simp [intOf]; omega⟩
                      exact AllReadyH.nil
                    exact AllReadyH.nil
                  exact AllReadyH.nil
                exact AllReadyH.nil
              refine AllReadyH.cons (o := _) rfl (fun K hK => ?_) ?_
              · go_simp
                refine hK.out _ _ trivial (fun hHeld => ?_)
                clear hK K hHeld
                try simp only [Act.put, List.setIfInBounds_toArray, List.set_cons_zero, List.set_cons_succ]
                refine wpAnyH_ready (rs := [1]) (by kernel_rfl) (by simp) ?_
                refine AllReadyH.cons (o := _) rfl (fun K hK => ?_) ?_
                · go_simp
                  refine hK.out _ _ trivial (fun hHeld => ?_)
                  clear hK K hHeld
                  try simp only [Act.put, List.setIfInBounds_toArray, List.set_cons_zero, List.set_cons_succ]
                  refine wpAnyH_ready (rs := [21]) (by kernel_rfl) (by simp) ?_
                  refine AllReadyH.cons (o := _) rfl (fun K hK => ?_) ?_
                  · refine step_append rfl _ _ _ rfl rfl rfl hrun ?_
                    refine hK.out _ _ trivial (fun hHeld => ?_)
                    clear hK K hHeld
                    try simp only [Act.put, List.setIfInBounds_toArray, List.set_cons_zero, List.set_cons_succ]
                    refine wpAnyH_ready (rs := [22]) (by kernel_rfl) (by simp) ?_
                    refine AllReadyH.cons (o := _) rfl (fun K hK => ?_) ?_
                    · go_simp
                      refine hK.out _ _ trivial (fun hHeld => ?_)
                      clear hK K hHeld
                      try simp only [Act.put, List.setIfInBounds_toArray, List.set_cons_zero, List.set_cons_succ]
                      refine wpAnyH_ready (rs := [23]) (by kernel_rfl) (by simp) ?_
                      refine AllReadyH.cons (o := _) rfl (fun K hK => ?_) ?_
                      · go_simp
                        refine hK.out _ _ trivial (fun hHeld => ?_)
                        clear hK K hHeld
                        try simp only [Act.put, List.setIfInBounds_toArray, List.set_cons_zero, List.set_cons_succ]
                        refine ⟨by kernel_rfl, ?_⟩
                        have hs0 := HS0.out
                        have hszw := HSZ.out
                        have HR5 := blk_step (HR2.kept1 (balloc1 wr (.cells #[.bool false] 4)).drew) b2 (by omega)
                        have HZ5 := blk_step (HZ2.kept1 (balloc1 wr (.cells #[.bool false] 4)).drew) b2 (by omega)
                        have hb5 : Below w.heap.size w w2 := (balloc hb2 (.cells #[.bool false] 4)).drew.trans (b2.mono (by omega))
                        have hsz5 : w1.heap.size ≤ w2.heap.size := by have := b2.size; have := HSD.out (.cells #[.bool false] 4); omega
                        have hf5 : ∀ i, w0.heap.size ≤ i → i < w1.heap.size → w2.heap[i]? = w1.heap[i]? := fun i h1 h2 => (b2.block i h2).trans (((balloc1 wr (.cells #[.bool false] 4)).drew.block i (by omega)).trans (HF.out i h1 h2))
                        have hl5 : w2.ownsRow w1.heap.size 4 1 (.slice a5 (j + 1) c5) (j + 1) ((marksOf1 s n (j + 1)).map Value.bool) := by rw [HS2.out, HM0.out, List.map_append]; exact h2
                        obtain ⟨w3, hw3q⟩ : ∃ w3, w2.setCell ⟨w.heap.size + 1, 4, none⟩ (.slice a5 (j + 1) c5) = w3 := ⟨_, rfl⟩
                        have HR6 : RecAt (w.heap.size + 1) 2 seq 0 (.slice ah k ch) (.slice a5 (j + 1) c5) 0 w3 := by rw [← hw3q]; exact HR5.set 4 _
                        have HZ6 : Blk w.heap.size zC 27 w3 := by rw [← hw3q]; exact HZ5.other (by show w.heap.size + 1 ≠ w.heap.size; omega) _
                        have hl6 : BoolsOwn w1.heap.size (.slice a5 (j + 1) c5) (marksOf1 s n (j + 1)) w3 := by
                          unfold BoolsOwn
                          rw [marksOf1_length]
                          exact row_same hl5 fun i hi => by rw [← hw3q]; exact Below.heap_setCell w2 _ _ i (by show i ≠ w.heap.size + 1; omega)
                        have hb6 : Below w.heap.size w w3 := by rw [← hw3q]; exact hb5.setCell (show w.heap.size ≤ w.heap.size + 1 by omega) _
                        have hsz6 : w1.heap.size ≤ w3.heap.size := by rw [← hw3q, size_set]; exact hsz5
                        have hf6 : Hid (∀ i, w0.heap.size ≤ i → i < w1.heap.size → w3.heap[i]? = w1.heap[i]?) := Lib.hid fun i h1 h2 => by rw [← hw3q]; exact (Below.heap_setCell w2 _ _ i (by show i ≠ w.heap.size + 1; omega)).trans (hf5 i h1 h2)
                        rw [hw3q]
                        have HO6 := Lib.hid (And.intro HR6 (And.intro HZ6 (And.intro hl6 (And.intro hb6 hsz6))))
                        clear dc2 hi2 hi3 hi4 HR5 HZ5 hb5 hsz5 hf5 hl5 HR6 HZ6 hl6 hb6 hsz6 hw3q h2 g2 b2 cb2 fb2 cc2 y4 y5 hrun dc CK0 HX x0 x1 x2 x3 x4 x5 HR2 HZ2 hb2 hs0 hszw
                        go_wp2
                        exact ⟨⟨j + 1, _, by go_num, by omega, by omega, HO6.out.1, HO6.out.2.1, hf6, HO6.out.2.2.1, HO6.out.2.2.2.1, HO6.out.2.2.2.2⟩, by simp [intOf]; omega⟩
                      exact AllReadyH.nil
                    exact AllReadyH.nil
                  exact AllReadyH.nil
                exact AllReadyH.nil
              exact AllReadyH.nil
          · have hJ : j = min n 24 := by omega
            have HJ := Lib.hid hJ
            have HZ := Lib.hid HZ2
            have HR := Lib.hid HR2
            have HB := Lib.hid hb2
            have hszw := HSZ.out
            have RO : Hid (RecOwn w0.heap.size ⟨2, seq, 0, homesOf s k, marksOf1 s n j, 0⟩ (.slice ah k ch) (.slice am j cm) wr) := Lib.hid ⟨row_same2 HW.out HF.out, row_down hszw hown⟩
            have EX := EE.out (.slice ah k ch) (.slice am j cm) wr (by rw [HN.out, ← HKM.out, ← HJ.out]; exact RO.out.isIn)
            rw [HN.out, ← HKM.out, ← HJ.out] at EX
            have hw := hw.out
            rw [HN.out, ← HKM.out, ← HJ.out] at hw
            have hw := Lib.hid hw
            rw [show recV ⟨2, seq, 0, homesOf s k, marksOf1 s n j, 0⟩ (.slice ah k ch) (.slice am j cm) = recA 2 seq 0 (.slice ah k ch) (.slice am j cm) 0 from by show recA _ _ _ _ _ _ = _; rfl] at EX
            have EX := Lib.hid EX
            clear hJ hown hszw
            by_cases hjn2 : j < n
            · have hj2 : ¬ j < 24 := by omega
              go_wp2_with fail
              refine EX.out.mono ?_; rintro e wE ⟨rfl, b⟩
              have hZ1 := HZ.out.kept1 b
              have hR1 := HR.out.kept1 b
              have hO1 := RO.out.kept b
              have hb1 := bnext HB.out b
              clear EX b
              rcases hw.out with ⟨yes, rfl, hTs, hr⟩ | ⟨no, rfl, hd⟩ | ⟨no, rfl⟩
              · obtain rfl : s = T := hTs.symm
                clear hTs
                have HY := Lib.hid (And.intro yes hr)
                have HO := Lib.hid hO1
                obtain ⟨x0, x1, x2, x3, x4, x5⟩ := rec_cells hR1
                clear yes hr hO1 hw
                go_wp2_with (refine wpList_store_rec (q := seq) (s := 0) rfl _ _ rfl rfl rfl _ rfl hZ1 ?_)
                intro w5 h5 hl5 hs5 he5
                obtain ⟨y0, y1, y2, y3, y4, y5⟩ := rec_cells h5
                have hbe := hb1.trans hl5
                have HO5 : Hid (RecOwn w0.heap.size ⟨2, seq, 0, homesOf s k, marksOf1 s n j, 0⟩ (.slice ah k ch) (.slice am j cm) w5) := Lib.hid ⟨row_same HO.out.1 fun j hj => he5 j (by have := HS0.out; omega), row_same HO.out.2 fun j hj => he5 j (by have := HS0.out; omega)⟩
                clear hl5 hs5 he5 hR1 hZ1 hb1
                go_wp2
                refine bodyPost_ret (v := .tuple #[recA (2) (seq) (0) (.slice ah k ch) (.slice am j cm) (0), .int .i64 0]) ?_ rfl ⟨fun _ => ⟨.slice ah k ch, .slice am j cm, by rw [HY.out.2], by rw [HY.out.2]; exact HO5.out.down (by have := HS0.out; omega)⟩, fun k => absurd HY.out.1 k, hbe⟩
                rw [results_cell_tmp rfl]
                go_simp
              · have HN := Lib.hid no
                clear no hw hO1 hR1
                go_wp2_with (refine wpList_store_rec (q := 0) (s := 0) rfl _ _ rfl rfl rfl _ rfl hZ1 ?_)
                intro w5 h5 hl5 hs5 he5
                obtain ⟨y0, y1, y2, y3, y4, y5⟩ := rec_cells h5
                have hbe := hb1.trans hl5
                clear hl5 hs5 he5 hZ1 hb1
                go_wp2
                refine bodyPost_ret (v := .tuple #[noR, .int .i64 80]) ?_ rfl ⟨fun k => absurd k HN.out, fun _ => rfl, hbe⟩
                rw [results_cell_tmp rfl]
                go_simp
              · have HN := Lib.hid no
                clear no hw hO1 hR1
                go_wp2_with (refine wpList_store_rec (q := 0) (s := 0) rfl _ _ rfl rfl rfl _ rfl hZ1 ?_)
                intro w5 h5 hl5 hs5 he5
                obtain ⟨y0, y1, y2, y3, y4, y5⟩ := rec_cells h5
                have hbe := hb1.trans hl5
                clear hl5 hs5 he5 hZ1 hb1
                go_wp2
                refine bodyPost_ret (v := .tuple #[noR, .int .i64 80]) ?_ rfl ⟨fun k => absurd k HN.out, fun _ => rfl, hbe⟩
                rw [results_cell_tmp rfl]
                go_simp
            · skip
              go_wp2_with fail
              refine EX.out.mono ?_; rintro e wE ⟨rfl, b⟩
              have hZ1 := HZ.out.kept1 b
              have hR1 := HR.out.kept1 b
              have hO1 := RO.out.kept b
              have hb1 := bnext HB.out b
              clear EX b
              rcases hw.out with ⟨yes, rfl, hTs, hr⟩ | ⟨no, rfl, hd⟩ | ⟨no, rfl⟩
              · obtain rfl : s = T := hTs.symm
                clear hTs
                have HY := Lib.hid (And.intro yes hr)
                have HO := Lib.hid hO1
                obtain ⟨x0, x1, x2, x3, x4, x5⟩ := rec_cells hR1
                clear yes hr hO1 hw
                go_wp2_with (refine wpList_store_rec (q := seq) (s := 0) rfl _ _ rfl rfl rfl _ rfl hZ1 ?_)
                intro w5 h5 hl5 hs5 he5
                obtain ⟨y0, y1, y2, y3, y4, y5⟩ := rec_cells h5
                have hbe := hb1.trans hl5
                have HO5 : Hid (RecOwn w0.heap.size ⟨2, seq, 0, homesOf s k, marksOf1 s n j, 0⟩ (.slice ah k ch) (.slice am j cm) w5) := Lib.hid ⟨row_same HO.out.1 fun j hj => he5 j (by have := HS0.out; omega), row_same HO.out.2 fun j hj => he5 j (by have := HS0.out; omega)⟩
                clear hl5 hs5 he5 hR1 hZ1 hb1
                go_wp2
                refine bodyPost_ret (v := .tuple #[recA (2) (seq) (0) (.slice ah k ch) (.slice am j cm) (0), .int .i64 0]) ?_ rfl ⟨fun _ => ⟨.slice ah k ch, .slice am j cm, by rw [HY.out.2], by rw [HY.out.2]; exact HO5.out.down (by have := HS0.out; omega)⟩, fun k => absurd HY.out.1 k, hbe⟩
                rw [results_cell_tmp rfl]
                go_simp
              · have HN := Lib.hid no
                clear no hw hO1 hR1
                go_wp2_with (refine wpList_store_rec (q := 0) (s := 0) rfl _ _ rfl rfl rfl _ rfl hZ1 ?_)
                intro w5 h5 hl5 hs5 he5
                obtain ⟨y0, y1, y2, y3, y4, y5⟩ := rec_cells h5
                have hbe := hb1.trans hl5
                clear hl5 hs5 he5 hZ1 hb1
                go_wp2
                refine bodyPost_ret (v := .tuple #[noR, .int .i64 80]) ?_ rfl ⟨fun k => absurd k HN.out, fun _ => rfl, hbe⟩
                rw [results_cell_tmp rfl]
                go_simp
              · have HN := Lib.hid no
                clear no hw hO1 hR1
                go_wp2_with (refine wpList_store_rec (q := 0) (s := 0) rfl _ _ rfl rfl rfl _ rfl hZ1 ?_)
                intro w5 h5 hl5 hs5 he5
                obtain ⟨y0, y1, y2, y3, y4, y5⟩ := rec_cells h5
                have hbe := hb1.trans hl5
                clear hl5 hs5 he5 hZ1 hb1
                go_wp2
                refine bodyPost_ret (v := .tuple #[noR, .int .i64 80]) ?_ rfl ⟨fun k => absurd k HN.out, fun _ => rfl, hbe⟩
                rw [results_cell_tmp rfl]
                go_simp
      · go_wp2
        go_loopw [15] (fun q wr => ∃ (j : Nat) (vm : Value), q = .int .i64 j ∧ j ≤ n ∧ j ≤ 24 ∧ RecAt (w.heap.size + 1) 2 seq 0 (.slice ah k ch) vm 0 wr ∧ Blk w.heap.size zC 27 wr ∧ Hid (∀ i, w0.heap.size ≤ i → i < w1.heap.size → wr.heap[i]? = w1.heap[i]?) ∧ BoolsOwn w1.heap.size vm (marksOf1 s n j) wr ∧ Below w.heap.size w wr ∧ w1.heap.size ≤ wr.heap.size) (fun q _ => n - (intOf q).toNat)
        case atStart => exact ⟨0, _, rfl, Nat.zero_le _, by omega, HTH.out.1, HTH.out.2.1, Lib.hid (fun _ _ _ => rfl), World.ownsRow_nil _ _ _ _, HTH.out.2.2, Nat.le_refl _⟩
        case round =>
          clear HTH
          obtain ⟨j, vm, rfl, hjn, hj24, HR2, HZ2, HF, hown, hb2, hsz2⟩ := hrel
          obtain ⟨am, cm, hvm, -⟩ := shape_of hown
          rw [marksOf1_length] at hvm
          subst hvm
          obtain ⟨x0, x1, x2, x3, x4, x5⟩ := rec_cells HR2
          by_cases hlt : j < n ∧ j < 24
          · obtain ⟨hlt1, hlt2⟩ := hlt
            have HW2 := Lib.hid hown
            have HS2 := Lib.hid (marksOf1_succ s n j)
            have hw1 : IntKind.i64.wrap (2 * (n : Int)) = 2 * (n : Int) := IntWalk.i64_in _ (by omega)
            have hw2 : IntKind.i64.wrap (14 + 2 * (n : Int)) = 14 + 2 * (n : Int) := IntWalk.i64_in _ (by omega)
            have hw3 : IntKind.i64.wrap (14 + 2 * (n : Int) + (j : Int)) = 14 + 2 * (n : Int) + (j : Int) := IntWalk.i64_in _ (by omega)
            have hs0 := HS0.out
            have hszw := HSZ.out
            have hltb : w.heap.size + 1 < wr.heap.size := by omega
            have CB : Hid (∀ (u : Obj) (w2 : World), Below w1.heap.size (wr.alloc u).drew w2 → w2.cell? ⟨w.heap.size + 1, 4, none⟩ = some (.slice am j cm) ∧ w2.frozen? ⟨w.heap.size + 1, 4, none⟩ = false ∧ w2.cell? ⟨w.heap.size + 1, 0, none⟩ = some (.int .i64 2)) := Lib.hid (fun u w2 b => by
              have h := blk_step (HR2.kept1 (balloc1 wr u).drew) b (by omega)
              exact ⟨(rec_cells h).2.2.2.2.1, h.frozen 4, (rec_cells h).1⟩)
            have CK : Hid (∀ u : Obj, (wr.alloc u).drew.cell? ⟨w.heap.size + 1, 0, none⟩ = some (.int .i64 2)) := Lib.hid (fun u => (rec_cells (HR2.kept1 (balloc1 wr u).drew)).1)
            have CK0 : wr.drew.cell? ⟨w.heap.size + 1, 0, none⟩ = some (.int .i64 2) := x0
            have hsd : ∀ u, w1.heap.size ≤ (wr.alloc u).drew.heap.size := fun u => by
              show w1.heap.size ≤ (wr.alloc u).heap.size
              rw [size_alloc]; omega
            have HSD := Lib.hid hsd
            have mixed : Try.prog.follows .mixedOrders = true := by kernel_rfl
            clear hown hs0 hszw hsd
            by_cases hc : 14 + 2 * n + j < 128
            · have dc : decide (14 + 2 * (n : Int) + (j : Int) < 128) = true := decide_eq_true (by omega)
              have hin : (14 + 2 * (n : Int) + (j : Int)).toNat < s.size := by omega
              have hd := mark_fact s n j _ hin (by omega)
              obtain ⟨b, hbv⟩ : ∃ b, decide (markOf s n j = 1) = b := ⟨_, rfl⟩
              rw [hbv] at hd
              have HM0 : Hid ((decide (14 + 2 * n + j < 128) && decide (markOf s n j = 1)) = b) := Lib.hid (by rw [decide_eq_true hc, hbv]; rfl)
              have hi1 : (0 : Int) ≤ 14 + 2 * (n : Int) + (j : Int) := by omega
              have hi2 : 14 + 2 * (n : Int) + (j : Int) < 128 := by omega
              clear hbv
              have HX := Lib.hid (And.intro hd (And.intro dc (And.intro hi1 (And.intro hi2 (And.intro hw1 (And.intro hw2 (And.intro hw3 CK0)))))))
              clear hd dc hi1 hi2 hw1 hw2 hw3 CK0
              go_upto_region 23 with fail
              obtain ⟨hd, dc, hi1, hi2, hw1, hw2, hw3, CK0⟩ := HX.out
              obtain ⟨i9, hi9, hz9, hs9, hb9⟩ := info_parts kbool_info
              have hrow9 : (wr.alloc (.cells #[.bool b] 4)).drew.ownsRow w1.heap.size 4 1 (.slice am j cm) j ((marksOf1 s n j).map Value.bool) := by
                have := HW2.out.alloc (.cells #[.bool b] 4)
                rw [marksOf1_length] at this
                exact this
              obtain ⟨v', w2, hrun, h2, g2, -⟩ := run_append_own (P := Try.prog) (wr.alloc (.cells #[.bool b] 4)).drew w1.heap.size 24 24 4 i9 (.bool false) 1 1 Try.underlying24 hi9 hz9 hs9 hb9 rfl (by decide) (.slice am j cm) j ((marksOf1 s n j).map Value.bool) hrow9 ⟨wr.heap.size, 0, none⟩ 1 1 [.bool b] rfl (fun j u hj => by
                rw [add_at, Nat.zero_add]
                show (wr.alloc _).cell? _ = _
                rw [World.cell?_alloc_mark]; simpa using hj) (by simp [Value.oneCell']) (by unfold maxLen; omega) (by omega) (HSD.out _)
              have b2 : Below w1.heap.size (wr.alloc (.cells #[.bool b] 4)).drew w2 := below_of_row hrow9 g2 (HSD.out _)
              obtain ⟨cb2, fb2, cc2⟩ := CB.out _ w2 b2
              obtain ⟨a5, c5, e5, -⟩ := shape_of h2
              subst e5
              have y4 : (wr.alloc (.cells #[.bool b] 4)).drew.cell? ⟨w.heap.size + 1, 4, none⟩ = some (.slice am j cm) := (rec_cells (HR2.kept1 (balloc1 wr (.cells #[.bool b] 4)).drew)).2.2.2.2.1
              have y5 : wr.drew.cell? ⟨w.heap.size + 1, 4, none⟩ = some (.slice am j cm) := x4
              clear hrow9 hi9 hz9 hs9 hb9
              refine wp_region_held_drew (S := fun _ => True) mixed trivial (fun hHeld => ?_)
              clear hHeld
              refine wpAnyH_take (i := 0) (oi := _) (v := ?v9d0) rfl (by kernel_rfl) (by kernel_rfl) (by kernel_rfl) (fun _ _ _ h => h) (Or.inl ⟨by kernel_rfl, ?hy9d0⟩) trivial ?rest9d0
              case hy9d0 => (intro w9 hSw; clear hSw; go_simp; try with_reducible rfl)
              try simp only [Act.put, List.setIfInBounds_toArray, List.set_cons_zero, List.set_cons_succ]
              refine wpAnyH_take (i := 2) (oi := _) (v := ?v9d2) rfl (by kernel_rfl) (by kernel_rfl) (by kernel_rfl) (fun _ _ _ h => h) (Or.inl ⟨by kernel_rfl, ?hy9d2⟩) trivial ?rest9d2
              case hy9d2 => (intro w9 hSw; clear hSw; go_simp; try with_reducible rfl)
              try simp only [Act.put, List.setIfInBounds_toArray, List.set_cons_zero, List.set_cons_succ]
              refine wpAnyH_take (i := 3) (oi := _) (v := ?v9d3) rfl (by kernel_rfl) (by kernel_rfl) (by kernel_rfl) (fun _ _ _ h => h) (Or.inl ⟨by kernel_rfl, ?hy9d3⟩) trivial ?rest9d3
              case hy9d3 => (intro w9 hSw; clear hSw; go_simp; try with_reducible rfl)
              try simp only [Act.put, List.setIfInBounds_toArray, List.set_cons_zero, List.set_cons_succ]
              refine wpAnyH_take (i := 4) (oi := _) (v := ?v9d4) rfl (by kernel_rfl) (by kernel_rfl) (by kernel_rfl) (fun _ _ _ h => h) (Or.inl ⟨by kernel_rfl, ?hy9d4⟩) trivial ?rest9d4
              case hy9d4 => (intro w9 hSw; clear hSw; go_simp; try with_reducible rfl)
              try simp only [Act.put, List.setIfInBounds_toArray, List.set_cons_zero, List.set_cons_succ]
              refine wpAnyH_take (i := 5) (oi := _) (v := ?v9d5) rfl (by kernel_rfl) (by kernel_rfl) (by kernel_rfl) (fun _ _ _ h => h) (Or.inl ⟨by kernel_rfl, ?hy9d5⟩) trivial ?rest9d5
              case hy9d5 => (intro w9 hSw; clear hSw; go_simp; try with_reducible rfl)
              try simp only [Act.put, List.setIfInBounds_toArray, List.set_cons_zero, List.set_cons_succ]
              refine wpAnyH_take (i := 6) (oi := _) (v := ?v9d6) rfl (by kernel_rfl) (by kernel_rfl) (by kernel_rfl) (fun _ _ _ h => h) (Or.inl ⟨by kernel_rfl, ?hy9d6⟩) trivial ?rest9d6
              case hy9d6 => (intro w9 hSw; clear hSw; go_simp; try with_reducible rfl)
              try simp only [Act.put, List.setIfInBounds_toArray, List.set_cons_zero, List.set_cons_succ]
              refine wpAnyH_take (i := 7) (oi := _) (v := ?v9d7) rfl (by kernel_rfl) (by kernel_rfl) (by kernel_rfl) (fun _ _ _ h => h) (Or.inl ⟨by kernel_rfl, ?hy9d7⟩) trivial ?rest9d7
              case hy9d7 => (intro w9 hSw; clear hSw; go_simp; try with_reducible rfl)
              try simp only [Act.put, List.setIfInBounds_toArray, List.set_cons_zero, List.set_cons_succ]
              refine wpAnyH_take (i := 8) (oi := _) (v := ?v9d8) rfl (by kernel_rfl) (by kernel_rfl) (by kernel_rfl) (fun _ _ _ h => h) (Or.inl ⟨by kernel_rfl, ?hy9d8⟩) trivial ?rest9d8
              case hy9d8 => (intro w9 hSw; clear hSw; go_simp; try with_reducible rfl)
              try simp only [Act.put, List.setIfInBounds_toArray, List.set_cons_zero, List.set_cons_succ]
              refine wpAnyH_take (i := 9) (oi := _) (v := ?v9d9) rfl (by kernel_rfl) (by kernel_rfl) (by kernel_rfl) (fun _ _ _ h => h) (Or.inl ⟨by kernel_rfl, ?hy9d9⟩) trivial ?rest9d9
              case hy9d9 => (intro w9 hSw; clear hSw; go_simp; try with_reducible rfl)
              try simp only [Act.put, List.setIfInBounds_toArray, List.set_cons_zero, List.set_cons_succ]
              refine wpAnyH_take (i := 10) (oi := _) (v := ?v9d10) rfl (by kernel_rfl) (by kernel_rfl) (by kernel_rfl) (fun _ _ _ h => h) (Or.inl ⟨by kernel_rfl, ?hy9d10⟩) trivial ?rest9d10
              case hy9d10 => (intro w9 hSw; clear hSw; go_simp; try with_reducible rfl)
              try simp only [Act.put, List.setIfInBounds_toArray, List.set_cons_zero, List.set_cons_succ]
              refine wpAnyH_take (i := 11) (oi := _) (v := ?v9d11) rfl (by kernel_rfl) (by kernel_rfl) (by kernel_rfl) (fun _ _ _ h => h) (Or.inl ⟨by kernel_rfl, ?hy9d11⟩) trivial ?rest9d11
              case hy9d11 => (intro w9 hSw; clear hSw; go_simp; try with_reducible rfl)
              try simp only [Act.put, List.setIfInBounds_toArray, List.set_cons_zero, List.set_cons_succ]
              refine wpAnyH_take (i := 12) (oi := _) (v := ?v9d12) rfl (by kernel_rfl) (by kernel_rfl) (by kernel_rfl) (fun _ _ _ h => h) (Or.inl ⟨by kernel_rfl, ?hy9d12⟩) trivial ?rest9d12
              case hy9d12 => (intro w9 hSw; clear hSw; go_simp; try with_reducible rfl)
              try simp only [Act.put, List.setIfInBounds_toArray, List.set_cons_zero, List.set_cons_succ]
              refine wpAnyH_take (i := 13) (oi := _) (v := ?v9d13) rfl (by kernel_rfl) (by kernel_rfl) (by kernel_rfl) (fun _ _ _ h => h) (Or.inl ⟨by kernel_rfl, ?hy9d13⟩) trivial ?rest9d13
              case hy9d13 => (intro w9 hSw; clear hSw; go_simp; try with_reducible rfl)
              try simp only [Act.put, List.setIfInBounds_toArray, List.set_cons_zero, List.set_cons_succ]
              refine wpAnyH_take (i := 14) (oi := _) (v := ?v9d14) rfl (by kernel_rfl) (by kernel_rfl) (by kernel_rfl) (fun _ _ _ h => h) (Or.inl ⟨by kernel_rfl, ?hy9d14⟩) trivial ?rest9d14
              case hy9d14 => (intro w9 hSw; clear hSw; go_simp; try with_reducible rfl)
              try simp only [Act.put, List.setIfInBounds_toArray, List.set_cons_zero, List.set_cons_succ]
              refine wpAnyH_take (i := 15) (oi := _) (v := ?v9d15) rfl (by kernel_rfl) (by kernel_rfl) (by kernel_rfl) (fun _ _ _ h => h) (Or.inl ⟨by kernel_rfl, ?hy9d15⟩) trivial ?rest9d15
              case hy9d15 => (intro w9 hSw; clear hSw; go_simp; try with_reducible rfl)
              try simp only [Act.put, List.setIfInBounds_toArray, List.set_cons_zero, List.set_cons_succ]
              refine wpAnyH_take (i := 16) (oi := _) (v := ?v9d16) rfl (by kernel_rfl) (by kernel_rfl) (by kernel_rfl) (fun _ _ _ h => h) (Or.inl ⟨by kernel_rfl, ?hy9d16⟩) trivial ?rest9d16
              case hy9d16 => (intro w9 hSw; clear hSw; go_simp; try with_reducible rfl)
              try simp only [Act.put, List.setIfInBounds_toArray, List.set_cons_zero, List.set_cons_succ]
              refine wpAnyH_take (i := 17) (oi := _) (v := ?v9d17) rfl (by kernel_rfl) (by kernel_rfl) (by kernel_rfl) (fun _ _ _ h => h) (Or.inl ⟨by kernel_rfl, ?hy9d17⟩) trivial ?rest9d17
              case hy9d17 => (intro w9 hSw; clear hSw; go_simp; try with_reducible rfl)
              try simp only [Act.put, List.setIfInBounds_toArray, List.set_cons_zero, List.set_cons_succ]
              refine wpAnyH_take (i := 18) (oi := _) (v := ?v9d18) rfl (by kernel_rfl) (by kernel_rfl) (by kernel_rfl) (fun _ _ _ h => h) (Or.inl ⟨by kernel_rfl, ?hy9d18⟩) trivial ?rest9d18
              case hy9d18 => (intro w9 hSw; clear hSw; go_simp; try with_reducible rfl)
              try simp only [Act.put, List.setIfInBounds_toArray, List.set_cons_zero, List.set_cons_succ]
              refine wpAnyH_take (i := 19) (oi := _) (v := ?v9d19) rfl (by kernel_rfl) (by kernel_rfl) (by kernel_rfl) (fun _ _ _ h => h) (Or.inl ⟨by kernel_rfl, ?hy9d19⟩) trivial ?rest9d19
              case hy9d19 => (intro w9 hSw; clear hSw; go_simp; try with_reducible rfl)
              try simp only [Act.put, List.setIfInBounds_toArray, List.set_cons_zero, List.set_cons_succ]
              refine wpAnyH_ready (rs := [1, 20]) (by kernel_rfl) (by simp) ?_
              refine AllReadyH.cons (o := _) rfl (fun K hK => ?_) ?_
              · go_simp
                refine hK.out _ _ trivial (fun hHeld => ?_)
                clear hK K hHeld
                try simp only [Act.put, List.setIfInBounds_toArray, List.set_cons_zero, List.set_cons_succ]
                refine wpAnyH_ready (rs := [20]) (by kernel_rfl) (by simp) ?_
                refine AllReadyH.cons (o := _) rfl (fun K hK => ?_) ?_
                · go_simp
                  refine hK.out _ _ trivial (fun hHeld => ?_)
                  clear hK K hHeld
                  try simp only [Act.put, List.setIfInBounds_toArray, List.set_cons_zero, List.set_cons_succ]
                  refine wpAnyH_ready (rs := [21]) (by kernel_rfl) (by simp) ?_
                  refine AllReadyH.cons (o := _) rfl (fun K hK => ?_) ?_
                  · refine step_append rfl _ _ _ rfl rfl rfl hrun ?_
                    refine hK.out _ _ trivial (fun hHeld => ?_)
                    clear hK K hHeld
                    try simp only [Act.put, List.setIfInBounds_toArray, List.set_cons_zero, List.set_cons_succ]
                    refine wpAnyH_ready (rs := [22]) (by kernel_rfl) (by simp) ?_
                    refine AllReadyH.cons (o := _) rfl (fun K hK => ?_) ?_
                    · go_simp
                      refine hK.out _ _ trivial (fun hHeld => ?_)
                      clear hK K hHeld
                      try simp only [Act.put, List.setIfInBounds_toArray, List.set_cons_zero, List.set_cons_succ]
                      refine wpAnyH_ready (rs := [23]) (by kernel_rfl) (by simp) ?_
                      refine AllReadyH.cons (o := _) rfl (fun K hK => ?_) ?_
                      · go_simp
                        refine hK.out _ _ trivial (fun hHeld => ?_)
                        clear hK K hHeld
                        try simp only [Act.put, List.setIfInBounds_toArray, List.set_cons_zero, List.set_cons_succ]
                        refine ⟨by kernel_rfl, ?_⟩
                        have hs0 := HS0.out
                        have hszw := HSZ.out
                        have HR5 := blk_step (HR2.kept1 (balloc1 wr (.cells #[.bool b] 4)).drew) b2 (by omega)
                        have HZ5 := blk_step (HZ2.kept1 (balloc1 wr (.cells #[.bool b] 4)).drew) b2 (by omega)
                        have hb5 : Below w.heap.size w w2 := (balloc hb2 (.cells #[.bool b] 4)).drew.trans (b2.mono (by omega))
                        have hsz5 : w1.heap.size ≤ w2.heap.size := by have := b2.size; have := HSD.out (.cells #[.bool b] 4); omega
                        have hf5 : ∀ i, w0.heap.size ≤ i → i < w1.heap.size → w2.heap[i]? = w1.heap[i]? := fun i h1 h2 => (b2.block i h2).trans (((balloc1 wr (.cells #[.bool b] 4)).drew.block i (by omega)).trans (HF.out i h1 h2))
                        have hl5 : w2.ownsRow w1.heap.size 4 1 (.slice a5 (j + 1) c5) (j + 1) ((marksOf1 s n (j + 1)).map Value.bool) := by rw [HS2.out, HM0.out, List.map_append]; exact h2
                        obtain ⟨w3, hw3q⟩ : ∃ w3, w2.setCell ⟨w.heap.size + 1, 4, none⟩ (.slice a5 (j + 1) c5) = w3 := ⟨_, rfl⟩
                        have HR6 : RecAt (w.heap.size + 1) 2 seq 0 (.slice ah k ch) (.slice a5 (j + 1) c5) 0 w3 := by rw [← hw3q]; exact HR5.set 4 _
                        have HZ6 : Blk w.heap.size zC 27 w3 := by rw [← hw3q]; exact HZ5.other (by show w.heap.size + 1 ≠ w.heap.size; omega) _
                        have hl6 : BoolsOwn w1.heap.size (.slice a5 (j + 1) c5) (marksOf1 s n (j + 1)) w3 := by
                          unfold BoolsOwn
                          rw [marksOf1_length]
                          exact row_same hl5 fun i hi => by rw [← hw3q]; exact Below.heap_setCell w2 _ _ i (by show i ≠ w.heap.size + 1; omega)
                        have hb6 : Below w.heap.size w w3 := by rw [← hw3q]; exact hb5.setCell (show w.heap.size ≤ w.heap.size + 1 by omega) _
                        have hsz6 : w1.heap.size ≤ w3.heap.size := by rw [← hw3q, size_set]; exact hsz5
                        have hf6 : Hid (∀ i, w0.heap.size ≤ i → i < w1.heap.size → w3.heap[i]? = w1.heap[i]?) := Lib.hid fun i h1 h2 => by rw [← hw3q]; exact (Below.heap_setCell w2 _ _ i (by show i ≠ w.heap.size + 1; omega)).trans (hf5 i h1 h2)
                        rw [hw3q]
                        have HO6 := Lib.hid (And.intro HR6 (And.intro HZ6 (And.intro hl6 (And.intro hb6 hsz6))))
                        clear HR5 HZ5 hb5 hsz5 hf5 hl5 HR6 HZ6 hl6 hb6 hsz6 hw3q h2 g2 b2 cb2 fb2 cc2 y4 y5 hrun hd dc CK0 HX x0 x1 x2 x3 x4 x5 HR2 HZ2 hb2 hs0 hszw
                        go_wp2
                        exact ⟨⟨j + 1, _, by go_num, by omega, by omega, HO6.out.1, HO6.out.2.1, hf6, HO6.out.2.2.1, HO6.out.2.2.2.1, HO6.out.2.2.2.2⟩, by simp [intOf]; omega⟩
                      exact AllReadyH.nil
                    exact AllReadyH.nil
                  exact AllReadyH.nil
                exact AllReadyH.nil
              refine AllReadyH.cons (o := _) rfl (fun K hK => ?_) ?_
              · go_simp
                refine hK.out _ _ trivial (fun hHeld => ?_)
                clear hK K hHeld
                try simp only [Act.put, List.setIfInBounds_toArray, List.set_cons_zero, List.set_cons_succ]
                refine wpAnyH_ready (rs := [1]) (by kernel_rfl) (by simp) ?_
                refine AllReadyH.cons (o := _) rfl (fun K hK => ?_) ?_
                · go_simp
                  refine hK.out _ _ trivial (fun hHeld => ?_)
                  clear hK K hHeld
                  try simp only [Act.put, List.setIfInBounds_toArray, List.set_cons_zero, List.set_cons_succ]
                  refine wpAnyH_ready (rs := [21]) (by kernel_rfl) (by simp) ?_
                  refine AllReadyH.cons (o := _) rfl (fun K hK => ?_) ?_
                  · refine step_append rfl _ _ _ rfl rfl rfl hrun ?_
                    refine hK.out _ _ trivial (fun hHeld => ?_)
                    clear hK K hHeld
                    try simp only [Act.put, List.setIfInBounds_toArray, List.set_cons_zero, List.set_cons_succ]
                    refine wpAnyH_ready (rs := [22]) (by kernel_rfl) (by simp) ?_
                    refine AllReadyH.cons (o := _) rfl (fun K hK => ?_) ?_
                    · go_simp
                      refine hK.out _ _ trivial (fun hHeld => ?_)
                      clear hK K hHeld
                      try simp only [Act.put, List.setIfInBounds_toArray, List.set_cons_zero, List.set_cons_succ]
                      refine wpAnyH_ready (rs := [23]) (by kernel_rfl) (by simp) ?_
                      refine AllReadyH.cons (o := _) rfl (fun K hK => ?_) ?_
                      · go_simp
                        refine hK.out _ _ trivial (fun hHeld => ?_)
                        clear hK K hHeld
                        try simp only [Act.put, List.setIfInBounds_toArray, List.set_cons_zero, List.set_cons_succ]
                        refine ⟨by kernel_rfl, ?_⟩
                        have hs0 := HS0.out
                        have hszw := HSZ.out
                        have HR5 := blk_step (HR2.kept1 (balloc1 wr (.cells #[.bool b] 4)).drew) b2 (by omega)
                        have HZ5 := blk_step (HZ2.kept1 (balloc1 wr (.cells #[.bool b] 4)).drew) b2 (by omega)
                        have hb5 : Below w.heap.size w w2 := (balloc hb2 (.cells #[.bool b] 4)).drew.trans (b2.mono (by omega))
                        have hsz5 : w1.heap.size ≤ w2.heap.size := by have := b2.size; have := HSD.out (.cells #[.bool b] 4); omega
                        have hf5 : ∀ i, w0.heap.size ≤ i → i < w1.heap.size → w2.heap[i]? = w1.heap[i]? := fun i h1 h2 => (b2.block i h2).trans (((balloc1 wr (.cells #[.bool b] 4)).drew.block i (by omega)).trans (HF.out i h1 h2))
                        have hl5 : w2.ownsRow w1.heap.size 4 1 (.slice a5 (j + 1) c5) (j + 1) ((marksOf1 s n (j + 1)).map Value.bool) := by rw [HS2.out, HM0.out, List.map_append]; exact h2
                        obtain ⟨w3, hw3q⟩ : ∃ w3, w2.setCell ⟨w.heap.size + 1, 4, none⟩ (.slice a5 (j + 1) c5) = w3 := ⟨_, rfl⟩
                        have HR6 : RecAt (w.heap.size + 1) 2 seq 0 (.slice ah k ch) (.slice a5 (j + 1) c5) 0 w3 := by rw [← hw3q]; exact HR5.set 4 _
                        have HZ6 : Blk w.heap.size zC 27 w3 := by rw [← hw3q]; exact HZ5.other (by show w.heap.size + 1 ≠ w.heap.size; omega) _
                        have hl6 : BoolsOwn w1.heap.size (.slice a5 (j + 1) c5) (marksOf1 s n (j + 1)) w3 := by
                          unfold BoolsOwn
                          rw [marksOf1_length]
                          exact row_same hl5 fun i hi => by rw [← hw3q]; exact Below.heap_setCell w2 _ _ i (by show i ≠ w.heap.size + 1; omega)
                        have hb6 : Below w.heap.size w w3 := by rw [← hw3q]; exact hb5.setCell (show w.heap.size ≤ w.heap.size + 1 by omega) _
                        have hsz6 : w1.heap.size ≤ w3.heap.size := by rw [← hw3q, size_set]; exact hsz5
                        have hf6 : Hid (∀ i, w0.heap.size ≤ i → i < w1.heap.size → w3.heap[i]? = w1.heap[i]?) := Lib.hid fun i h1 h2 => by rw [← hw3q]; exact (Below.heap_setCell w2 _ _ i (by show i ≠ w.heap.size + 1; omega)).trans (hf5 i h1 h2)
                        rw [hw3q]
                        have HO6 := Lib.hid (And.intro HR6 (And.intro HZ6 (And.intro hl6 (And.intro hb6 hsz6))))
                        clear HR5 HZ5 hb5 hsz5 hf5 hl5 HR6 HZ6 hl6 hb6 hsz6 hw3q h2 g2 b2 cb2 fb2 cc2 y4 y5 hrun hd dc CK0 HX x0 x1 x2 x3 x4 x5 HR2 HZ2 hb2 hs0 hszw
                        go_wp2
                        exact ⟨⟨j + 1, _, by go_num, by omega, by omega, HO6.out.1, HO6.out.2.1, hf6, HO6.out.2.2.1, HO6.out.2.2.2.1, HO6.out.2.2.2.2⟩, by simp [intOf]; omega⟩
                      exact AllReadyH.nil
                    exact AllReadyH.nil
                  exact AllReadyH.nil
                exact AllReadyH.nil
              exact AllReadyH.nil
            · exact absurd (show 14 + 2 * n + j < 128 by omega) hc
          · have hJ : j = min n 24 := by omega
            have HJ := Lib.hid hJ
            have HZ := Lib.hid HZ2
            have HR := Lib.hid HR2
            have HB := Lib.hid hb2
            have hszw := HSZ.out
            have RO : Hid (RecOwn w0.heap.size ⟨2, seq, 0, homesOf s k, marksOf1 s n j, 0⟩ (.slice ah k ch) (.slice am j cm) wr) := Lib.hid ⟨row_same2 HW.out HF.out, row_down hszw hown⟩
            have EX := EE.out (.slice ah k ch) (.slice am j cm) wr (by rw [HN.out, ← HKM.out, ← HJ.out]; exact RO.out.isIn)
            rw [HN.out, ← HKM.out, ← HJ.out] at EX
            have hw := hw.out
            rw [HN.out, ← HKM.out, ← HJ.out] at hw
            have hw := Lib.hid hw
            rw [show recV ⟨2, seq, 0, homesOf s k, marksOf1 s n j, 0⟩ (.slice ah k ch) (.slice am j cm) = recA 2 seq 0 (.slice ah k ch) (.slice am j cm) 0 from by show recA _ _ _ _ _ _ = _; rfl] at EX
            have EX := Lib.hid EX
            clear hJ hown hszw
            by_cases hjn2 : j < n
            · have hj2 : ¬ j < 24 := by omega
              go_wp2_with fail
              refine EX.out.mono ?_; rintro e wE ⟨rfl, b⟩
              have hZ1 := HZ.out.kept1 b
              have hR1 := HR.out.kept1 b
              have hO1 := RO.out.kept b
              have hb1 := bnext HB.out b
              clear EX b
              rcases hw.out with ⟨yes, rfl, hTs, hr⟩ | ⟨no, rfl, hd⟩ | ⟨no, rfl⟩
              · obtain rfl : s = T := hTs.symm
                clear hTs
                have HY := Lib.hid (And.intro yes hr)
                have HO := Lib.hid hO1
                obtain ⟨x0, x1, x2, x3, x4, x5⟩ := rec_cells hR1
                clear yes hr hO1 hw
                go_wp2_with (refine wpList_store_rec (q := seq) (s := 0) rfl _ _ rfl rfl rfl _ rfl hZ1 ?_)
                intro w5 h5 hl5 hs5 he5
                obtain ⟨y0, y1, y2, y3, y4, y5⟩ := rec_cells h5
                have hbe := hb1.trans hl5
                have HO5 : Hid (RecOwn w0.heap.size ⟨2, seq, 0, homesOf s k, marksOf1 s n j, 0⟩ (.slice ah k ch) (.slice am j cm) w5) := Lib.hid ⟨row_same HO.out.1 fun j hj => he5 j (by have := HS0.out; omega), row_same HO.out.2 fun j hj => he5 j (by have := HS0.out; omega)⟩
                clear hl5 hs5 he5 hR1 hZ1 hb1
                go_wp2
                refine bodyPost_ret (v := .tuple #[recA (2) (seq) (0) (.slice ah k ch) (.slice am j cm) (0), .int .i64 0]) ?_ rfl ⟨fun _ => ⟨.slice ah k ch, .slice am j cm, by rw [HY.out.2], by rw [HY.out.2]; exact HO5.out.down (by have := HS0.out; omega)⟩, fun k => absurd HY.out.1 k, hbe⟩
                rw [results_cell_tmp rfl]
                go_simp
              · have HN := Lib.hid no
                clear no hw hO1 hR1
                go_wp2_with (refine wpList_store_rec (q := 0) (s := 0) rfl _ _ rfl rfl rfl _ rfl hZ1 ?_)
                intro w5 h5 hl5 hs5 he5
                obtain ⟨y0, y1, y2, y3, y4, y5⟩ := rec_cells h5
                have hbe := hb1.trans hl5
                clear hl5 hs5 he5 hZ1 hb1
                go_wp2
                refine bodyPost_ret (v := .tuple #[noR, .int .i64 80]) ?_ rfl ⟨fun k => absurd k HN.out, fun _ => rfl, hbe⟩
                rw [results_cell_tmp rfl]
                go_simp
              · have HN := Lib.hid no
                clear no hw hO1 hR1
                go_wp2_with (refine wpList_store_rec (q := 0) (s := 0) rfl _ _ rfl rfl rfl _ rfl hZ1 ?_)
                intro w5 h5 hl5 hs5 he5
                obtain ⟨y0, y1, y2, y3, y4, y5⟩ := rec_cells h5
                have hbe := hb1.trans hl5
                clear hl5 hs5 he5 hZ1 hb1
                go_wp2
                refine bodyPost_ret (v := .tuple #[noR, .int .i64 80]) ?_ rfl ⟨fun k => absurd k HN.out, fun _ => rfl, hbe⟩
                rw [results_cell_tmp rfl]
                go_simp
            · skip
              go_wp2_with fail
              refine EX.out.mono ?_; rintro e wE ⟨rfl, b⟩
              have hZ1 := HZ.out.kept1 b
              have hR1 := HR.out.kept1 b
              have hO1 := RO.out.kept b
              have hb1 := bnext HB.out b
              clear EX b
              rcases hw.out with ⟨yes, rfl, hTs, hr⟩ | ⟨no, rfl, hd⟩ | ⟨no, rfl⟩
              · obtain rfl : s = T := hTs.symm
                clear hTs
                have HY := Lib.hid (And.intro yes hr)
                have HO := Lib.hid hO1
                obtain ⟨x0, x1, x2, x3, x4, x5⟩ := rec_cells hR1
                clear yes hr hO1 hw
                go_wp2_with (refine wpList_store_rec (q := seq) (s := 0) rfl _ _ rfl rfl rfl _ rfl hZ1 ?_)
                intro w5 h5 hl5 hs5 he5
                obtain ⟨y0, y1, y2, y3, y4, y5⟩ := rec_cells h5
                have hbe := hb1.trans hl5
                have HO5 : Hid (RecOwn w0.heap.size ⟨2, seq, 0, homesOf s k, marksOf1 s n j, 0⟩ (.slice ah k ch) (.slice am j cm) w5) := Lib.hid ⟨row_same HO.out.1 fun j hj => he5 j (by have := HS0.out; omega), row_same HO.out.2 fun j hj => he5 j (by have := HS0.out; omega)⟩
                clear hl5 hs5 he5 hR1 hZ1 hb1
                go_wp2
                refine bodyPost_ret (v := .tuple #[recA (2) (seq) (0) (.slice ah k ch) (.slice am j cm) (0), .int .i64 0]) ?_ rfl ⟨fun _ => ⟨.slice ah k ch, .slice am j cm, by rw [HY.out.2], by rw [HY.out.2]; exact HO5.out.down (by have := HS0.out; omega)⟩, fun k => absurd HY.out.1 k, hbe⟩
                rw [results_cell_tmp rfl]
                go_simp
              · have HN := Lib.hid no
                clear no hw hO1 hR1
                go_wp2_with (refine wpList_store_rec (q := 0) (s := 0) rfl _ _ rfl rfl rfl _ rfl hZ1 ?_)
                intro w5 h5 hl5 hs5 he5
                obtain ⟨y0, y1, y2, y3, y4, y5⟩ := rec_cells h5
                have hbe := hb1.trans hl5
                clear hl5 hs5 he5 hZ1 hb1
                go_wp2
                refine bodyPost_ret (v := .tuple #[noR, .int .i64 80]) ?_ rfl ⟨fun k => absurd k HN.out, fun _ => rfl, hbe⟩
                rw [results_cell_tmp rfl]
                go_simp
              · have HN := Lib.hid no
                clear no hw hO1 hR1
                go_wp2_with (refine wpList_store_rec (q := 0) (s := 0) rfl _ _ rfl rfl rfl _ rfl hZ1 ?_)
                intro w5 h5 hl5 hs5 he5
                obtain ⟨y0, y1, y2, y3, y4, y5⟩ := rec_cells h5
                have hbe := hb1.trans hl5
                clear hl5 hs5 he5 hZ1 hb1
                go_wp2
                refine bodyPost_ret (v := .tuple #[noR, .int .i64 80]) ?_ rfl ⟨fun k => absurd k HN.out, fun _ => rfl, hbe⟩
                rw [results_cell_tmp rfl]
                go_simp
end Go.Proofs.Ytfgjogaoogiddaa
