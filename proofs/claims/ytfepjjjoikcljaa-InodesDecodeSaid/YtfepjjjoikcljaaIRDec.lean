/- get; the document's Decode, up to what is read. -/
import Derived.Test.YtfepjjjoikcljaaIRMath
import Derived.Test.YtfepjjjoikcljaaIRead
import Derived.Test.YtfepjjjoikcljaaIREnc2
import Derived.Test.YtfepjjjoikcljaaIDec
namespace Go.Proofs.Ytfepjjjoikcljaa
set_option linter.unusedVariables false
open Go.RowKit

theorem wrap_in (n : Int) (h1 : -9223372036854775808 ≤ n) (h2 : n ≤ 9223372036854775807) : IntKind.i64.wrap n = n := IntWalk.i64_in _ (by omega)
theorem rget11_any (s : ByteArray) (hs : s.size ≤ maxLen) (a z : Int) (w : World) :
    Calls Try.prog 27 #[.string s, .int .i64 a, .int .i64 z] w fun e w' => e = .returned (.int .i64 (numR s a z)) ∧ w = w' := by
  have G := Lib.hid fun w => rgetInt_any s hs a z w
  unfold numR
  generalize ((intV s a z : Nat) : Int) = n at *
  cases hb : intOk s a z with
  | true =>
    rw [hb] at G
    simp only [if_true]
    clear hb
    go_enter Try.func27, Try.ntmps27
    go_wp2_with fail
    refine (G.out _).mono ?_; rintro e w' ⟨rfl, rfl⟩
    go_wp2
    go_ret
    exact ⟨rfl, rfl⟩
  | false =>
    rw [hb] at G
    simp only [Bool.false_eq_true, if_false]
    clear hb
    go_enter Try.func27, Try.ntmps27
    go_wp2_with fail
    refine (G.out _).mono ?_; rintro e w' ⟨rfl, rfl⟩
    go_wp2
    go_ret
    exact ⟨rfl, rfl⟩
theorem readD_fit (s : ByteArray) : fitE (readD s).root := fitG (numR_fit s) _
theorem numR_byte (s : ByteArray) (a : Int) : -1 ≤ numR s a 1 ∧ numR s a 1 < 256 := by
  have := intV_byte s a
  unfold numR; split <;> omega
/-- what the document's Encode says of what was read, and what comes of it -/
theorem rdec_ways (s : ByteArray) (hs : s.size ≤ maxLen) : ∃ (T : ByteArray) (c : Int) (D : Bool), (∀ v w, EntsIn v (readD s).root w → Calls Try.prog 10 #[inoV (readD s) v] w fun e w' => e = .returned (.tuple #[.string T, .int .i64 c]) ∧ Below w.heap.size w w') ∧
    ((c = 0 ∧ (T.toList == s.toList) = D) ∨ (c = 2 ∧ D = false)) ∧ (D = true ↔ IsIno s) := by
  have hf := readD_fit s
  by_cases h : InoOk (readD s)
  · refine ⟨ino (readD s), 0, ((ino (readD s)).toList == s.toList), fun v w hv => irenc_yes _ h v w hf hv, .inl ⟨rfl, rfl⟩, ?_⟩
    rw [← readD_iff]
    constructor
    · intro hq
      refine ⟨h, Classical.byContradiction fun hne => ?_⟩
      rw [inoText_ne hne] at hq; cases hq
    · rintro ⟨-, he⟩; rw [he]; simp
  · refine ⟨⟨#[]⟩, 2, false, fun v w hv => irenc_no _ hf h v w hv, .inr ⟨rfl, rfl⟩, ?_⟩
    rw [← readD_iff]
    constructor
    · intro hq; cases hq
    · rintro ⟨k, -⟩; exact absurd k h
abbrev RDecPost (s : ByteArray) (w : World) (e : Ending) (w' : World) : Prop :=
  (IsIno s ∧ ∃ v, e = .returned (.tuple #[inoV (readD s) v, .int .i64 0]) ∧ EntsAt w.heap.size v (readD s).root w' ∧ Below w.heap.size w w') ∨ (¬ IsIno s ∧ e = inoBadD ∧ Below w.heap.size w w')
set_option maxRecDepth 100000 in
set_option maxHeartbeats 8000000 in
theorem irdec_any (s : ByteArray) (hs : s.size ≤ maxLen) (w : World) :
    Calls Try.prog 16 #[.string s] w fun e w' => RDecPost s w e w' := by
  have mixed : Try.prog.follows .mixedOrders = true := by kernel_rfl
  have GN := Lib.hid fun a z w => rget11_any s hs a z w
  obtain ⟨T, c, D, EN, hcD, hDI⟩ := rdec_ways s hs
  have hcb := numR_byte s 13
  obtain ⟨n, hn⟩ : ∃ n, n = cntR s := ⟨_, rfl⟩
  have hn10 : n = min (numR s 13 1).toNat 10 := hn
  have hrd : readD s = readG (numR s) n := by rw [hn]; rfl
  unfold RDecPost
  rw [hrd] at EN ⊢
  unfold readG at EN ⊢
  dsimp only at EN ⊢
  have HSUC := Lib.hid fun k => entsG_succ (numR s) k
  have HLEN := Lib.hid fun k => entsG_length (numR s) k
  have HENT : Hid (∀ k : Nat, entG (numR s) k = ⟨numR s (14 + 12 * (k : Int)) 4, numR s (18 + 12 * (k : Int)) 4, numR s (22 + 12 * (k : Int)) 4⟩) := Lib.hid fun k => rfl
  generalize numR s = N at *
  generalize entG N = EG at *
  generalize entsG N = ES at *
  have EN := Lib.hid EN
  have HDI := Lib.hid hDI
  have HCD := Lib.hid hcD
  clear hrd hn hDI hcD
  generalize hk0 : N 0 1 = kd at *
  generalize hk1 : N 1 1 = p1 at *
  generalize hk2 : N 2 2 = lk at *
  generalize hk4 : N 4 8 = sz at *
  generalize hk12 : N 12 1 = dp at *
  obtain ⟨w0, hw0⟩ : ∃ w0, (w.alloc (.cells #[.int .i64 0, .bool false, .int .i64 0, .int .i64 0, .int .i64 0, .slice none 0 0] 24)) = w0 := ⟨_, rfl⟩
  go_enter Try.func16, Try.ntmps16
  go_wp2_with fail
  refine (GN.out _ _ _).mono ?_; rintro e w1 ⟨rfl, rfl⟩
  try rw [hk0]
  go_wp2_with fail
  refine (GN.out _ _ _).mono ?_; rintro e w1 ⟨rfl, rfl⟩
  try rw [hk1]
  go_wp2_with fail
  refine (GN.out _ _ _).mono ?_; rintro e w1 ⟨rfl, rfl⟩
  try rw [hk2]
  go_wp2_with fail
  refine (GN.out _ _ _).mono ?_; rintro e w1 ⟨rfl, rfl⟩
  try rw [hk4]
  go_wp2_with fail
  refine (GN.out _ _ _).mono ?_; rintro e w1 ⟨rfl, rfl⟩
  try rw [hk12]
  obtain ⟨w2, hw2⟩ : ∃ w2, w0.alloc (.cells #[.int .i64 kd, .bool (p1 == 1), .int .i64 lk, .int .i64 sz, .int .i64 dp, .slice none 0 0] 24) = w2 := ⟨_, rfl⟩
  have hz0 : w0.heap.size = w.heap.size + 1 := by rw [← hw0, size_alloc]
  have hz2 : w2.heap.size = w.heap.size + 2 := by rw [← hw2, size_alloc, hz0]
  have hZ2 : Blk w.heap.size noC 24 w2 := by rw [← hw2]; exact (by rw [← hw0]; exact Blk.new _ _ w : Blk w.heap.size noC 24 w0).kept1 (balloc1 _ _)
  have hX2 : Blk (w.heap.size + 1) #[.int .i64 kd, .bool (p1 == 1), .int .i64 lk, .int .i64 sz, .int .i64 dp, .slice none 0 0] 24 w2 := by
    rw [← hw2, ← hz0]; exact Blk.new _ _ w0
  have hB2 : Below w.heap.size w w2 := by rw [← hw2, ← hw0]; exact balloc (balloc1 w _) _
  have HZ0 := Lib.hid hz0
  have HW2 := Lib.hid hw2
  generalize hpn : (p1 == 1) = pn at *
  have HPN := Lib.hid hpn
  clear hpn
  clear hk0 hk1 hk2 hk4 hk12 hw0 hz0 hw2
  have HES0 : Hid (ES 0 = []) := Lib.hid (List.eq_nil_of_length_eq_zero (HLEN.out 0))
  have HN10 := Lib.hid hn10
  generalize hcnt : N 13 1 = cn at *
  have HCNT := Lib.hid hcnt
  clear hcnt hn10
  go_wp2
  rw [HZ0.out] at *
  go_loopw [5] (fun q wr => ∃ (k : Nat) (vr : Value), q = .int .i64 k ∧ k ≤ n ∧ Blk w.heap.size noC 24 wr ∧ Blk (w.heap.size + 1) #[.int .i64 kd, .bool pn, .int .i64 lk, .int .i64 sz, .int .i64 dp, vr] 24 wr ∧ EntsAt (w.heap.size + 2) vr (ES k) wr ∧ Below w.heap.size w wr) (fun q _ => n - (intOf q).toNat)
  case atStart =>
    try rw [HW2.out]
    exact ⟨0, _, rfl, Nat.zero_le _, hZ2, hX2, (by rw [HES0.out]; exact World.ownsRow_nil _ _ _ _), hB2⟩
  case round =>
    clear hZ2 hX2 hB2
    obtain ⟨k, vr, rfl, hk, hZ, hX, hR, hb⟩ := hrel
    have hn10 := HN10.out
    have hk10 : k ≤ 10 := by omega
    go_wp2_with fail
    refine (GN.out _ _ _).mono ?_; rintro e w1 ⟨rfl, rfl⟩
    rw [HCNT.out]
    by_cases hlt : k < n
    · have t1 : decide ((k : Int) < cn) = true := decide_eq_true (by omega)
      have t2 : decide ((k : Int) < 10) = true := decide_eq_true (by omega)
      have t3 : decide (k < 10) = true := decide_eq_true (by omega)
      have hk9 : k < 10 := by omega
      clear hn10
      have hlk := HLEN.out k
      obtain ⟨ad, cap, hvr, p1', p2, -⟩ := shape_of hR
      rw [hlk] at hvr p1'
      subst hvr
      have p2 : cap ≤ 9223372036854775807 := p2
      obtain ⟨x0, x1, x2, x3, x4, x5⟩ : wr.cell? ⟨w.heap.size + 1, 0, none⟩ = some (.int .i64 kd) ∧ wr.cell? ⟨w.heap.size + 1, 1, none⟩ = some (.bool pn) ∧ wr.cell? ⟨w.heap.size + 1, 2, none⟩ = some (.int .i64 lk) ∧ wr.cell? ⟨w.heap.size + 1, 3, none⟩ = some (.int .i64 sz) ∧ wr.cell? ⟨w.heap.size + 1, 4, none⟩ = some (.int .i64 dp) ∧ wr.cell? ⟨w.heap.size + 1, 5, none⟩ = some (.slice ad k cap) := ⟨hX.cell 0, hX.cell 1, hX.cell 2, hX.cell 3, hX.cell 4, hX.cell 5⟩
      obtain ⟨y, hy⟩ : ∃ y : Ent, y = ⟨N (14 + 12 * (k : Int)) 4, N (18 + 12 * (k : Int)) 4, N (22 + 12 * (k : Int)) 4⟩ := ⟨_, rfl⟩
      have hyE : EG k = y := by rw [HENT.out, hy]
      have hz := hb.size
      have hRL : wr.drew.ownsRow (w.heap.size + 2) 26 3 (.slice ad k cap) (ES k).length (cellsE (ES k)) := hR
      have hsz2 : w.heap.size + 2 ≤ wr.drew.heap.size := by have := hX.lt; show _ ≤ wr.heap.size; omega
      obtain ⟨v', w', hrun, hown', hg'⟩ := app3_run (T := 22) (ty := 22) Try.underlying22 entry_info (w.heap.size + 2) (.slice ad k cap) (ES k) y wr.drew hRL (by omega) hsz2
      rw [← hyE, ← HSUC.out k] at hown'
      obtain ⟨ad2, cap2, hv2, -⟩ := shape_of hown'
      rw [HLEN.out] at hv2
      subst hv2
      have hRd : (wr.drew.alloc (.cells (entC y) 26)).ownsRow (w.heap.size + 2) 26 3 (.slice ad k cap) (ES k).length (cellsE (ES k)) := hRL.alloc _
      have hbg := below_of_row hRd hg' (by rw [size_alloc]; omega)
      have hX' : Blk (w.heap.size + 1) #[.int .i64 kd, .bool pn, .int .i64 lk, .int .i64 sz, .int .i64 dp, .slice ad k cap] 24 w' := by
        have h1 : Blk (w.heap.size + 1) #[.int .i64 kd, .bool pn, .int .i64 lk, .int .i64 sz, .int .i64 dp, .slice ad k cap] 24 (wr.drew.alloc (.cells (entC y) 26)) := Blk.kept1 (w := wr.drew) hX (balloc1 _ _)
        exact (hbg.block _ (by omega)).trans h1
      have hZ' : Blk w.heap.size noC 24 w' := by
        have h1 : Blk w.heap.size noC 24 (wr.drew.alloc (.cells (entC y) 26)) := Blk.kept1 (w := wr.drew) hZ (balloc1 _ _)
        exact (hbg.block _ (by omega)).trans h1
      have hb' : Below w.heap.size w w' := (balloc (w := w) (a := wr.drew) hb.drew _).trans (hbg.mono (by omega))
      have y5 := hX'.cell 5
      have fz := fun j => hX'.frozen j
      have z5 : (wr.alloc (.cells (entC y) 26)).cell? ⟨w.heap.size + 1, 5, none⟩ = some (.slice ad k cap) := (hX.kept1 (balloc1 wr (.cells (entC y) 26))).cell 5
      have HF : Hid (Blk w.heap.size noC 24 (w'.setCell ⟨w.heap.size + 1, 5, none⟩ (.slice ad2 (k + 1) cap2)) ∧ Blk (w.heap.size + 1) #[.int .i64 kd, .bool pn, .int .i64 lk, .int .i64 sz, .int .i64 dp, .slice ad2 (k + 1) cap2] 24 (w'.setCell ⟨w.heap.size + 1, 5, none⟩ (.slice ad2 (k + 1) cap2)) ∧
          EntsAt (w.heap.size + 2) (.slice ad2 (k + 1) cap2) (ES (k + 1)) (w'.setCell ⟨w.heap.size + 1, 5, none⟩ (.slice ad2 (k + 1) cap2)) ∧ Below w.heap.size w (w'.setCell ⟨w.heap.size + 1, 5, none⟩ (.slice ad2 (k + 1) cap2))) :=
        Lib.hid ⟨hZ'.other (by show w.heap.size + 1 ≠ w.heap.size; omega) _, (by have := hX'.set 5 (.slice ad2 (k + 1) cap2); simpa using this), ownsRow_setCell_below hown' (a := ⟨w.heap.size + 1, 5, none⟩) (by show w.heap.size + 1 < w.heap.size + 2; omega) _, hb'.setCell (by show w.heap.size ≤ w.heap.size + 1; omega) _⟩
      subst hy
      clear hR hX hZ hb hlk hyE hz hRL hsz2 hown' hg' hRd hbg hX' hZ' hb'
      have q0 : IntKind.i64.wrap (12 * (k : Int)) = 12 * (k : Int) := wrap_in _ (by omega) (by omega)
      have q1 : IntKind.i64.wrap (14 + 12 * (k : Int)) = 14 + 12 * (k : Int) := wrap_in _ (by omega) (by omega)
      have q2 : IntKind.i64.wrap (18 + 12 * (k : Int)) = 18 + 12 * (k : Int) := wrap_in _ (by omega) (by omega)
      have q3 : IntKind.i64.wrap (22 + 12 * (k : Int)) = 22 + 12 * (k : Int) := wrap_in _ (by omega) (by omega)
      go_upto_region 5 with fail
      refine wp_region_held_drew (S := fun _ => True) mixed trivial (fun hHeld => ?_)
      clear hHeld
      refine wpAnyH_take (i := 0) (oi := _) (v := ?v90) rfl (by kernel_rfl) (by kernel_rfl) (by kernel_rfl) (fun _ _ _ h => h) (Or.inl ⟨by kernel_rfl, ?hy90⟩) trivial ?rest90
      case hy90 => (intro w9 hSw; clear hSw; go_simp; try with_reducible rfl)
      try simp only [Act.put, List.setIfInBounds_toArray, List.set_cons_zero, List.set_cons_succ]
      refine wpAnyH_take (i := 2) (oi := _) (v := ?v92) rfl (by kernel_rfl) (by kernel_rfl) (by kernel_rfl) (fun _ _ _ h => h) (Or.inl ⟨by kernel_rfl, ?hy92⟩) trivial ?rest92
      case hy92 => (intro w9 hSw; clear hSw; go_simp; try with_reducible rfl)
      try simp only [Act.put, List.setIfInBounds_toArray, List.set_cons_zero, List.set_cons_succ]
      refine wpAnyH_take (i := 3) (oi := _) (v := ?v93) rfl (by kernel_rfl) (by kernel_rfl) (by kernel_rfl) (fun _ _ _ h => h) (Or.inl ⟨by kernel_rfl, ?hy93⟩) trivial ?rest93
      case hy93 => (intro w9 hSw; clear hSw; go_simp; try with_reducible rfl)
      try simp only [Act.put, List.setIfInBounds_toArray, List.set_cons_zero, List.set_cons_succ]
      refine wpAnyH_take (i := 4) (oi := _) (v := ?v94) rfl (by kernel_rfl) (by kernel_rfl) (by kernel_rfl) (fun _ _ _ h => h) (Or.inl ⟨by kernel_rfl, ?hy94⟩) trivial ?rest94
      case hy94 => (intro w9 hSw; clear hSw; go_simp; try with_reducible rfl)
      try simp only [Act.put, List.setIfInBounds_toArray, List.set_cons_zero, List.set_cons_succ]
      refine wpAnyH_take (i := 5) (oi := _) (v := ?v95) rfl (by kernel_rfl) (by kernel_rfl) (by kernel_rfl) (fun _ _ _ h => h) (Or.inl ⟨by kernel_rfl, ?hy95⟩) trivial ?rest95
      case hy95 => (intro w9 hSw; clear hSw; go_simp; try with_reducible rfl)
      try simp only [Act.put, List.setIfInBounds_toArray, List.set_cons_zero, List.set_cons_succ]
      refine wpAnyH_take (i := 7) (oi := _) (v := ?v97) rfl (by kernel_rfl) (by kernel_rfl) (by kernel_rfl) (fun _ _ _ h => h) (Or.inl ⟨by kernel_rfl, ?hy97⟩) trivial ?rest97
      case hy97 => (intro w9 hSw; clear hSw; go_simp; try with_reducible rfl)
      try simp only [Act.put, List.setIfInBounds_toArray, List.set_cons_zero, List.set_cons_succ]
      refine wpAnyH_take (i := 8) (oi := _) (v := ?v98) rfl (by kernel_rfl) (by kernel_rfl) (by kernel_rfl) (fun _ _ _ h => h) (Or.inl ⟨by kernel_rfl, ?hy98⟩) trivial ?rest98
      case hy98 => (intro w9 hSw; clear hSw; go_simp; try with_reducible rfl)
      try simp only [Act.put, List.setIfInBounds_toArray, List.set_cons_zero, List.set_cons_succ]
      refine wpAnyH_take (i := 9) (oi := _) (v := ?v99) rfl (by kernel_rfl) (by kernel_rfl) (by kernel_rfl) (fun _ _ _ h => h) (Or.inl ⟨by kernel_rfl, ?hy99⟩) trivial ?rest99
      case hy99 => (intro w9 hSw; clear hSw; go_simp; try with_reducible rfl)
      try simp only [Act.put, List.setIfInBounds_toArray, List.set_cons_zero, List.set_cons_succ]
      refine wpAnyH_take (i := 10) (oi := _) (v := ?v910) rfl (by kernel_rfl) (by kernel_rfl) (by kernel_rfl) (fun _ _ _ h => h) (Or.inl ⟨by kernel_rfl, ?hy910⟩) trivial ?rest910
      case hy910 => (intro w9 hSw; clear hSw; go_simp; try with_reducible rfl)
      try simp only [Act.put, List.setIfInBounds_toArray, List.set_cons_zero, List.set_cons_succ]
      refine wpAnyH_take (i := 12) (oi := _) (v := ?v912) rfl (by kernel_rfl) (by kernel_rfl) (by kernel_rfl) (fun _ _ _ h => h) (Or.inl ⟨by kernel_rfl, ?hy912⟩) trivial ?rest912
      case hy912 => (intro w9 hSw; clear hSw; go_simp; try with_reducible rfl)
      try simp only [Act.put, List.setIfInBounds_toArray, List.set_cons_zero, List.set_cons_succ]
      refine wpAnyH_take (i := 13) (oi := _) (v := ?v913) rfl (by kernel_rfl) (by kernel_rfl) (by kernel_rfl) (fun _ _ _ h => h) (Or.inl ⟨by kernel_rfl, ?hy913⟩) trivial ?rest913
      case hy913 => (intro w9 hSw; clear hSw; go_simp; try with_reducible rfl)
      try simp only [Act.put, List.setIfInBounds_toArray, List.set_cons_zero, List.set_cons_succ]
      refine wpAnyH_take (i := 14) (oi := _) (v := ?v914) rfl (by kernel_rfl) (by kernel_rfl) (by kernel_rfl) (fun _ _ _ h => h) (Or.inl ⟨by kernel_rfl, ?hy914⟩) trivial ?rest914
      case hy914 => (intro w9 hSw; clear hSw; go_simp; try with_reducible rfl)
      try simp only [Act.put, List.setIfInBounds_toArray, List.set_cons_zero, List.set_cons_succ]
      refine wpAnyH_take (i := 15) (oi := _) (v := ?v915) rfl (by kernel_rfl) (by kernel_rfl) (by kernel_rfl) (fun _ _ _ h => h) (Or.inl ⟨by kernel_rfl, ?hy915⟩) trivial ?rest915
      case hy915 => (intro w9 hSw; clear hSw; go_simp; try with_reducible rfl)
      try simp only [Act.put, List.setIfInBounds_toArray, List.set_cons_zero, List.set_cons_succ]
      refine wpAnyH_ready (rs := [1, 6]) (by kernel_rfl) (by simp) ?_
      refine AllReadyH.cons (o := _) rfl (fun K hK => ?_) ?_
      · go_simp
        refine hK.out _ _ trivial (fun hHeld => ?_)
        clear hK K hHeld
        try simp only [Act.put, List.setIfInBounds_toArray, List.set_cons_zero, List.set_cons_succ]
        refine wpAnyH_ready (rs := [6]) (by kernel_rfl) (by simp) ?_
        refine AllReadyH.cons (o := _) rfl (fun K hK => ?_) ?_
        · go_simp
          refine (GN.out _ _ _).mono ?_; rintro e wz ⟨rfl, rfl⟩
          dsimp only
          refine hK.out _ _ trivial (fun hHeld => ?_)
          clear hK K hHeld
          try simp only [Act.put, List.setIfInBounds_toArray, List.set_cons_zero, List.set_cons_succ]
          refine wpAnyH_ready (rs := [11]) (by kernel_rfl) (by simp) ?_
          refine AllReadyH.cons (o := _) rfl (fun K hK => ?_) ?_
          · go_simp
            refine (GN.out _ _ _).mono ?_; rintro e wz ⟨rfl, rfl⟩
            dsimp only
            refine hK.out _ _ trivial (fun hHeld => ?_)
            clear hK K hHeld
            try simp only [Act.put, List.setIfInBounds_toArray, List.set_cons_zero, List.set_cons_succ]
            refine wpAnyH_ready (rs := [16]) (by kernel_rfl) (by simp) ?_
            refine AllReadyH.cons (o := _) rfl (fun K hK => ?_) ?_
            · go_simp
              refine (GN.out _ _ _).mono ?_; rintro e wz ⟨rfl, rfl⟩
              dsimp only
              refine hK.out _ _ trivial (fun hHeld => ?_)
              clear hK K hHeld
              try simp only [Act.put, List.setIfInBounds_toArray, List.set_cons_zero, List.set_cons_succ]
              refine wpAnyH_ready (rs := [17]) (by kernel_rfl) (by simp) ?_
              refine AllReadyH.cons (o := _) rfl (fun K hK => ?_) ?_
              · go_simp
                refine hK.out _ _ trivial (fun hHeld => ?_)
                clear hK K hHeld
                try simp only [Act.put, List.setIfInBounds_toArray, List.set_cons_zero, List.set_cons_succ]
                refine wpAnyH_ready (rs := [18]) (by kernel_rfl) (by simp) ?_
                refine AllReadyH.cons (o := _) rfl (fun K hK => ?_) ?_
                · go_simp
                  refine hK.out _ _ trivial (fun hHeld => ?_)
                  clear hK K hHeld
                  try simp only [Act.put, List.setIfInBounds_toArray, List.set_cons_zero, List.set_cons_succ]
                  refine wpAnyH_ready (rs := [19]) (by kernel_rfl) (by simp) ?_
                  refine AllReadyH.cons (o := _) rfl (fun K hK => ?_) ?_
                  · refine step_append rfl _ _ _ rfl rfl rfl hrun ?_
                    refine hK.out _ _ trivial (fun hHeld => ?_)
                    clear hK K hHeld
                    try simp only [Act.put, List.setIfInBounds_toArray, List.set_cons_zero, List.set_cons_succ]
                    refine wpAnyH_ready (rs := [20]) (by kernel_rfl) (by simp) ?_
                    refine AllReadyH.cons (o := _) rfl (fun K hK => ?_) ?_
                    · go_simp
                      refine hK.out _ _ trivial (fun hHeld => ?_)
                      clear hK K hHeld
                      try simp only [Act.put, List.setIfInBounds_toArray, List.set_cons_zero, List.set_cons_succ]
                      refine wpAnyH_ready (rs := [21]) (by kernel_rfl) (by simp) ?_
                      refine AllReadyH.cons (o := _) rfl (fun K hK => ?_) ?_
                      · go_simp
                        refine hK.out _ _ trivial (fun hHeld => ?_)
                        clear hK K hHeld
                        try simp only [Act.put, List.setIfInBounds_toArray, List.set_cons_zero, List.set_cons_succ]
                        refine ⟨by kernel_rfl, ?_⟩
                        go_wp2
                        exact ⟨⟨k + 1, _, by go_num, by omega, HF.out.1, HF.out.2.1, HF.out.2.2.1, HF.out.2.2.2⟩, by simp [intOf]; omega⟩
                      exact AllReadyH.nil
                    exact AllReadyH.nil
                  exact AllReadyH.nil
                exact AllReadyH.nil
              exact AllReadyH.nil
            exact AllReadyH.nil
          exact AllReadyH.nil
        exact AllReadyH.nil
      refine AllReadyH.cons (o := _) rfl (fun K hK => ?_) ?_
      · go_simp
        refine (GN.out _ _ _).mono ?_; rintro e wz ⟨rfl, rfl⟩
        dsimp only
        refine hK.out _ _ trivial (fun hHeld => ?_)
        clear hK K hHeld
        try simp only [Act.put, List.setIfInBounds_toArray, List.set_cons_zero, List.set_cons_succ]
        refine wpAnyH_ready (rs := [1, 11]) (by kernel_rfl) (by simp) ?_
        refine AllReadyH.cons (o := _) rfl (fun K hK => ?_) ?_
        · go_simp
          refine hK.out _ _ trivial (fun hHeld => ?_)
          clear hK K hHeld
          try simp only [Act.put, List.setIfInBounds_toArray, List.set_cons_zero, List.set_cons_succ]
          refine wpAnyH_ready (rs := [11]) (by kernel_rfl) (by simp) ?_
          refine AllReadyH.cons (o := _) rfl (fun K hK => ?_) ?_
          · go_simp
            refine (GN.out _ _ _).mono ?_; rintro e wz ⟨rfl, rfl⟩
            dsimp only
            refine hK.out _ _ trivial (fun hHeld => ?_)
            clear hK K hHeld
            try simp only [Act.put, List.setIfInBounds_toArray, List.set_cons_zero, List.set_cons_succ]
            refine wpAnyH_ready (rs := [16]) (by kernel_rfl) (by simp) ?_
            refine AllReadyH.cons (o := _) rfl (fun K hK => ?_) ?_
            · go_simp
              refine (GN.out _ _ _).mono ?_; rintro e wz ⟨rfl, rfl⟩
              dsimp only
              refine hK.out _ _ trivial (fun hHeld => ?_)
              clear hK K hHeld
              try simp only [Act.put, List.setIfInBounds_toArray, List.set_cons_zero, List.set_cons_succ]
              refine wpAnyH_ready (rs := [17]) (by kernel_rfl) (by simp) ?_
              refine AllReadyH.cons (o := _) rfl (fun K hK => ?_) ?_
              · go_simp
                refine hK.out _ _ trivial (fun hHeld => ?_)
                clear hK K hHeld
                try simp only [Act.put, List.setIfInBounds_toArray, List.set_cons_zero, List.set_cons_succ]
                refine wpAnyH_ready (rs := [18]) (by kernel_rfl) (by simp) ?_
                refine AllReadyH.cons (o := _) rfl (fun K hK => ?_) ?_
                · go_simp
                  refine hK.out _ _ trivial (fun hHeld => ?_)
                  clear hK K hHeld
                  try simp only [Act.put, List.setIfInBounds_toArray, List.set_cons_zero, List.set_cons_succ]
                  refine wpAnyH_ready (rs := [19]) (by kernel_rfl) (by simp) ?_
                  refine AllReadyH.cons (o := _) rfl (fun K hK => ?_) ?_
                  · refine step_append rfl _ _ _ rfl rfl rfl hrun ?_
                    refine hK.out _ _ trivial (fun hHeld => ?_)
                    clear hK K hHeld
                    try simp only [Act.put, List.setIfInBounds_toArray, List.set_cons_zero, List.set_cons_succ]
                    refine wpAnyH_ready (rs := [20]) (by kernel_rfl) (by simp) ?_
                    refine AllReadyH.cons (o := _) rfl (fun K hK => ?_) ?_
                    · go_simp
                      refine hK.out _ _ trivial (fun hHeld => ?_)
                      clear hK K hHeld
                      try simp only [Act.put, List.setIfInBounds_toArray, List.set_cons_zero, List.set_cons_succ]
                      refine wpAnyH_ready (rs := [21]) (by kernel_rfl) (by simp) ?_
                      refine AllReadyH.cons (o := _) rfl (fun K hK => ?_) ?_
                      · go_simp
                        refine hK.out _ _ trivial (fun hHeld => ?_)
                        clear hK K hHeld
                        try simp only [Act.put, List.setIfInBounds_toArray, List.set_cons_zero, List.set_cons_succ]
                        refine ⟨by kernel_rfl, ?_⟩
                        go_wp2
                        exact ⟨⟨k + 1, _, by go_num, by omega, HF.out.1, HF.out.2.1, HF.out.2.2.1, HF.out.2.2.2⟩, by simp [intOf]; omega⟩
                      exact AllReadyH.nil
                    exact AllReadyH.nil
                  exact AllReadyH.nil
                exact AllReadyH.nil
              exact AllReadyH.nil
            exact AllReadyH.nil
          exact AllReadyH.nil
        refine AllReadyH.cons (o := _) rfl (fun K hK => ?_) ?_
        · go_simp
          refine (GN.out _ _ _).mono ?_; rintro e wz ⟨rfl, rfl⟩
          dsimp only
          refine hK.out _ _ trivial (fun hHeld => ?_)
          clear hK K hHeld
          try simp only [Act.put, List.setIfInBounds_toArray, List.set_cons_zero, List.set_cons_succ]
          refine wpAnyH_ready (rs := [1, 16]) (by kernel_rfl) (by simp) ?_
          refine AllReadyH.cons (o := _) rfl (fun K hK => ?_) ?_
          · go_simp
            refine hK.out _ _ trivial (fun hHeld => ?_)
            clear hK K hHeld
            try simp only [Act.put, List.setIfInBounds_toArray, List.set_cons_zero, List.set_cons_succ]
            refine wpAnyH_ready (rs := [16]) (by kernel_rfl) (by simp) ?_
            refine AllReadyH.cons (o := _) rfl (fun K hK => ?_) ?_
            · go_simp
              refine (GN.out _ _ _).mono ?_; rintro e wz ⟨rfl, rfl⟩
              dsimp only
              refine hK.out _ _ trivial (fun hHeld => ?_)
              clear hK K hHeld
              try simp only [Act.put, List.setIfInBounds_toArray, List.set_cons_zero, List.set_cons_succ]
              refine wpAnyH_ready (rs := [17]) (by kernel_rfl) (by simp) ?_
              refine AllReadyH.cons (o := _) rfl (fun K hK => ?_) ?_
              · go_simp
                refine hK.out _ _ trivial (fun hHeld => ?_)
                clear hK K hHeld
                try simp only [Act.put, List.setIfInBounds_toArray, List.set_cons_zero, List.set_cons_succ]
                refine wpAnyH_ready (rs := [18]) (by kernel_rfl) (by simp) ?_
                refine AllReadyH.cons (o := _) rfl (fun K hK => ?_) ?_
                · go_simp
                  refine hK.out _ _ trivial (fun hHeld => ?_)
                  clear hK K hHeld
                  try simp only [Act.put, List.setIfInBounds_toArray, List.set_cons_zero, List.set_cons_succ]
                  refine wpAnyH_ready (rs := [19]) (by kernel_rfl) (by simp) ?_
                  refine AllReadyH.cons (o := _) rfl (fun K hK => ?_) ?_
                  · refine step_append rfl _ _ _ rfl rfl rfl hrun ?_
                    refine hK.out _ _ trivial (fun hHeld => ?_)
                    clear hK K hHeld
                    try simp only [Act.put, List.setIfInBounds_toArray, List.set_cons_zero, List.set_cons_succ]
                    refine wpAnyH_ready (rs := [20]) (by kernel_rfl) (by simp) ?_
                    refine AllReadyH.cons (o := _) rfl (fun K hK => ?_) ?_
                    · go_simp
                      refine hK.out _ _ trivial (fun hHeld => ?_)
                      clear hK K hHeld
                      try simp only [Act.put, List.setIfInBounds_toArray, List.set_cons_zero, List.set_cons_succ]
                      refine wpAnyH_ready (rs := [21]) (by kernel_rfl) (by simp) ?_
                      refine AllReadyH.cons (o := _) rfl (fun K hK => ?_) ?_
                      · go_simp
                        refine hK.out _ _ trivial (fun hHeld => ?_)
                        clear hK K hHeld
                        try simp only [Act.put, List.setIfInBounds_toArray, List.set_cons_zero, List.set_cons_succ]
                        refine ⟨by kernel_rfl, ?_⟩
                        go_wp2
                        exact ⟨⟨k + 1, _, by go_num, by omega, HF.out.1, HF.out.2.1, HF.out.2.2.1, HF.out.2.2.2⟩, by simp [intOf]; omega⟩
                      exact AllReadyH.nil
                    exact AllReadyH.nil
                  exact AllReadyH.nil
                exact AllReadyH.nil
              exact AllReadyH.nil
            exact AllReadyH.nil
          refine AllReadyH.cons (o := _) rfl (fun K hK => ?_) ?_
          · go_simp
            refine (GN.out _ _ _).mono ?_; rintro e wz ⟨rfl, rfl⟩
            dsimp only
            refine hK.out _ _ trivial (fun hHeld => ?_)
            clear hK K hHeld
            try simp only [Act.put, List.setIfInBounds_toArray, List.set_cons_zero, List.set_cons_succ]
            refine wpAnyH_ready (rs := [1, 17]) (by kernel_rfl) (by simp) ?_
            refine AllReadyH.cons (o := _) rfl (fun K hK => ?_) ?_
            · go_simp
              refine hK.out _ _ trivial (fun hHeld => ?_)
              clear hK K hHeld
              try simp only [Act.put, List.setIfInBounds_toArray, List.set_cons_zero, List.set_cons_succ]
              refine wpAnyH_ready (rs := [17]) (by kernel_rfl) (by simp) ?_
              refine AllReadyH.cons (o := _) rfl (fun K hK => ?_) ?_
              · go_simp
                refine hK.out _ _ trivial (fun hHeld => ?_)
                clear hK K hHeld
                try simp only [Act.put, List.setIfInBounds_toArray, List.set_cons_zero, List.set_cons_succ]
                refine wpAnyH_ready (rs := [18]) (by kernel_rfl) (by simp) ?_
                refine AllReadyH.cons (o := _) rfl (fun K hK => ?_) ?_
                · go_simp
                  refine hK.out _ _ trivial (fun hHeld => ?_)
                  clear hK K hHeld
                  try simp only [Act.put, List.setIfInBounds_toArray, List.set_cons_zero, List.set_cons_succ]
                  refine wpAnyH_ready (rs := [19]) (by kernel_rfl) (by simp) ?_
                  refine AllReadyH.cons (o := _) rfl (fun K hK => ?_) ?_
                  · refine step_append rfl _ _ _ rfl rfl rfl hrun ?_
                    refine hK.out _ _ trivial (fun hHeld => ?_)
                    clear hK K hHeld
                    try simp only [Act.put, List.setIfInBounds_toArray, List.set_cons_zero, List.set_cons_succ]
                    refine wpAnyH_ready (rs := [20]) (by kernel_rfl) (by simp) ?_
                    refine AllReadyH.cons (o := _) rfl (fun K hK => ?_) ?_
                    · go_simp
                      refine hK.out _ _ trivial (fun hHeld => ?_)
                      clear hK K hHeld
                      try simp only [Act.put, List.setIfInBounds_toArray, List.set_cons_zero, List.set_cons_succ]
                      refine wpAnyH_ready (rs := [21]) (by kernel_rfl) (by simp) ?_
                      refine AllReadyH.cons (o := _) rfl (fun K hK => ?_) ?_
                      · go_simp
                        refine hK.out _ _ trivial (fun hHeld => ?_)
                        clear hK K hHeld
                        try simp only [Act.put, List.setIfInBounds_toArray, List.set_cons_zero, List.set_cons_succ]
                        refine ⟨by kernel_rfl, ?_⟩
                        go_wp2
                        exact ⟨⟨k + 1, _, by go_num, by omega, HF.out.1, HF.out.2.1, HF.out.2.2.1, HF.out.2.2.2⟩, by simp [intOf]; omega⟩
                      exact AllReadyH.nil
                    exact AllReadyH.nil
                  exact AllReadyH.nil
                exact AllReadyH.nil
              exact AllReadyH.nil
            refine AllReadyH.cons (o := _) rfl (fun K hK => ?_) ?_
            · go_simp
              refine hK.out _ _ trivial (fun hHeld => ?_)
              clear hK K hHeld
              try simp only [Act.put, List.setIfInBounds_toArray, List.set_cons_zero, List.set_cons_succ]
              refine wpAnyH_ready (rs := [1, 18]) (by kernel_rfl) (by simp) ?_
              refine AllReadyH.cons (o := _) rfl (fun K hK => ?_) ?_
              · go_simp
                refine hK.out _ _ trivial (fun hHeld => ?_)
                clear hK K hHeld
                try simp only [Act.put, List.setIfInBounds_toArray, List.set_cons_zero, List.set_cons_succ]
                refine wpAnyH_ready (rs := [18]) (by kernel_rfl) (by simp) ?_
                refine AllReadyH.cons (o := _) rfl (fun K hK => ?_) ?_
                · go_simp
                  refine hK.out _ _ trivial (fun hHeld => ?_)
                  clear hK K hHeld
                  try simp only [Act.put, List.setIfInBounds_toArray, List.set_cons_zero, List.set_cons_succ]
                  refine wpAnyH_ready (rs := [19]) (by kernel_rfl) (by simp) ?_
                  refine AllReadyH.cons (o := _) rfl (fun K hK => ?_) ?_
                  · refine step_append rfl _ _ _ rfl rfl rfl hrun ?_
                    refine hK.out _ _ trivial (fun hHeld => ?_)
                    clear hK K hHeld
                    try simp only [Act.put, List.setIfInBounds_toArray, List.set_cons_zero, List.set_cons_succ]
                    refine wpAnyH_ready (rs := [20]) (by kernel_rfl) (by simp) ?_
                    refine AllReadyH.cons (o := _) rfl (fun K hK => ?_) ?_
                    · go_simp
                      refine hK.out _ _ trivial (fun hHeld => ?_)
                      clear hK K hHeld
                      try simp only [Act.put, List.setIfInBounds_toArray, List.set_cons_zero, List.set_cons_succ]
                      refine wpAnyH_ready (rs := [21]) (by kernel_rfl) (by simp) ?_
                      refine AllReadyH.cons (o := _) rfl (fun K hK => ?_) ?_
                      · go_simp
                        refine hK.out _ _ trivial (fun hHeld => ?_)
                        clear hK K hHeld
                        try simp only [Act.put, List.setIfInBounds_toArray, List.set_cons_zero, List.set_cons_succ]
                        refine ⟨by kernel_rfl, ?_⟩
                        go_wp2
                        exact ⟨⟨k + 1, _, by go_num, by omega, HF.out.1, HF.out.2.1, HF.out.2.2.1, HF.out.2.2.2⟩, by simp [intOf]; omega⟩
                      exact AllReadyH.nil
                    exact AllReadyH.nil
                  exact AllReadyH.nil
                exact AllReadyH.nil
              refine AllReadyH.cons (o := _) rfl (fun K hK => ?_) ?_
              · go_simp
                refine hK.out _ _ trivial (fun hHeld => ?_)
                clear hK K hHeld
                try simp only [Act.put, List.setIfInBounds_toArray, List.set_cons_zero, List.set_cons_succ]
                refine wpAnyH_ready (rs := [1]) (by kernel_rfl) (by simp) ?_
                refine AllReadyH.cons (o := _) rfl (fun K hK => ?_) ?_
                · go_simp
                  refine hK.out _ _ trivial (fun hHeld => ?_)
                  clear hK K hHeld
                  try simp only [Act.put, List.setIfInBounds_toArray, List.set_cons_zero, List.set_cons_succ]
                  refine wpAnyH_ready (rs := [19]) (by kernel_rfl) (by simp) ?_
                  refine AllReadyH.cons (o := _) rfl (fun K hK => ?_) ?_
                  · refine step_append rfl _ _ _ rfl rfl rfl hrun ?_
                    refine hK.out _ _ trivial (fun hHeld => ?_)
                    clear hK K hHeld
                    try simp only [Act.put, List.setIfInBounds_toArray, List.set_cons_zero, List.set_cons_succ]
                    refine wpAnyH_ready (rs := [20]) (by kernel_rfl) (by simp) ?_
                    refine AllReadyH.cons (o := _) rfl (fun K hK => ?_) ?_
                    · go_simp
                      refine hK.out _ _ trivial (fun hHeld => ?_)
                      clear hK K hHeld
                      try simp only [Act.put, List.setIfInBounds_toArray, List.set_cons_zero, List.set_cons_succ]
                      refine wpAnyH_ready (rs := [21]) (by kernel_rfl) (by simp) ?_
                      refine AllReadyH.cons (o := _) rfl (fun K hK => ?_) ?_
                      · go_simp
                        refine hK.out _ _ trivial (fun hHeld => ?_)
                        clear hK K hHeld
                        try simp only [Act.put, List.setIfInBounds_toArray, List.set_cons_zero, List.set_cons_succ]
                        refine ⟨by kernel_rfl, ?_⟩
                        go_wp2
                        exact ⟨⟨k + 1, _, by go_num, by omega, HF.out.1, HF.out.2.1, HF.out.2.2.1, HF.out.2.2.2⟩, by simp [intOf]; omega⟩
                      exact AllReadyH.nil
                    exact AllReadyH.nil
                  exact AllReadyH.nil
                exact AllReadyH.nil
              exact AllReadyH.nil
            exact AllReadyH.nil
          exact AllReadyH.nil
        exact AllReadyH.nil
      exact AllReadyH.nil
    · obtain rfl : k = n := by omega
      have HX5 := Lib.hid hX
      have HZ := Lib.hid hZ
      have HB := Lib.hid hb
      have HR := Lib.hid hR
      by_cases hlc : (k : Int) < cn
      · have t1 : decide ((k : Int) < cn) = true := decide_eq_true hlc
        have t2 : decide ((k : Int) < 10) = false := decide_eq_false (by omega)
        have t3 : decide (k < 10) = false := decide_eq_false (by omega)
        clear hlc hn10 hX hZ hb hR
        obtain ⟨ad, cap, rfl, -⟩ := shape_of HR.out
        have hX := HX5.out
        obtain ⟨x0, x1, x2, x3, x4, x5⟩ : wr.cell? ⟨w.heap.size + 1, 0, none⟩ = some (.int .i64 kd) ∧ wr.cell? ⟨w.heap.size + 1, 1, none⟩ = some (.bool pn) ∧ wr.cell? ⟨w.heap.size + 1, 2, none⟩ = some (.int .i64 lk) ∧ wr.cell? ⟨w.heap.size + 1, 3, none⟩ = some (.int .i64 sz) ∧ wr.cell? ⟨w.heap.size + 1, 4, none⟩ = some (.int .i64 dp) ∧ wr.cell? ⟨w.heap.size + 1, 5, none⟩ = some (.slice ad (ES k).length cap) := ⟨hX.cell 0, hX.cell 1, hX.cell 2, hX.cell 3, hX.cell 4, hX.cell 5⟩
        clear hX
        go_wp2_with fail
        refine (EN.out (.slice ad (ES k).length cap) wr (entsAt_in HR.out)).mono ?_; rintro e w4 ⟨rfl, b4⟩
        have HX4 := Lib.hid (HX5.out.kept1 b4)
        have HZ4 := Lib.hid (HZ.out.kept1 b4)
        have HR4 := Lib.hid (row_kept HR.out b4)
        have HB4 := Lib.hid (bnext HB.out b4)
        clear x0 x1 x2 x3 x4 x5 b4 HX5 HZ HB HR EN
        have hX := HX4.out
        obtain ⟨x0, x1, x2, x3, x4, x5⟩ : w4.cell? ⟨w.heap.size + 1, 0, none⟩ = some (.int .i64 kd) ∧ w4.cell? ⟨w.heap.size + 1, 1, none⟩ = some (.bool pn) ∧ w4.cell? ⟨w.heap.size + 1, 2, none⟩ = some (.int .i64 lk) ∧ w4.cell? ⟨w.heap.size + 1, 3, none⟩ = some (.int .i64 sz) ∧ w4.cell? ⟨w.heap.size + 1, 4, none⟩ = some (.int .i64 dp) ∧ w4.cell? ⟨w.heap.size + 1, 5, none⟩ = some (.slice ad (ES k).length cap) := ⟨hX.cell 0, hX.cell 1, hX.cell 2, hX.cell 3, hX.cell 4, hX.cell 5⟩
        clear hX
        rcases HCD.out with ⟨rfl, hD⟩ | ⟨rfl, hD⟩
        · cases hDv : D with
          | true =>
            rw [hDv] at hD
            have HIS := Lib.hid (HDI.out.1 hDv)
            clear hDv
            go_wp2_with (refine wpList_store_ino (i := ⟨kd, pn, lk, sz, dp, ES k⟩) rfl _ _ rfl rfl rfl _ rfl HZ4.out ?_)
            intro w5 h5 hl5 hs5 he5
            obtain ⟨y0, y1, y2, y3, y4, y5⟩ := InoAt.cells h5
            have hbe : Below w.heap.size w w5 := HB4.out.trans hl5
            have hRe : EntsAt w.heap.size (.slice ad (ES k).length cap) (ES k) w5 := row_down (show w.heap.size ≤ w.heap.size + 2 by omega) (row_same' HR4.out fun j hj => he5 j (by omega))
            clear hl5 hs5 he5 h5 x0 x1 x2 x3 x4 x5
            dsimp only at *
            go_wp2
            refine bodyPost_ret (v := .tuple #[inoV ⟨kd, pn, lk, sz, dp, ES k⟩ (.slice ad (ES k).length cap), .int .i64 0]) ?_ rfl (.inl ⟨HIS.out, _, by rw [HPN.out], hRe, hbe⟩)
            rw [results_cell_tmp rfl]
            go_simp
          | false =>
            rw [hDv] at hD
            have HIS := Lib.hid (show ¬ IsIno s from fun h => by have := HDI.out.2 h; rw [hDv] at this; cases this)
            clear hDv x0 x1 x2 x3 x4 x5
            go_wp2_with (refine wpList_store_ino (i := noI) rfl _ _ rfl rfl rfl _ rfl HZ4.out ?_)
            intro w5 h5 hl5 hs5 _
            obtain ⟨y0, y1, y2, y3, y4, y5⟩ := InoAt.cells h5
            have hbe : Below w.heap.size w w5 := HB4.out.trans hl5
            clear hl5 hs5 h5
            dsimp only [noI] at *
            go_wp2
            refine bodyPost_ret (v := .tuple #[inoV noI (.slice none 0 0), .int .i64 80]) ?_ rfl (.inr ⟨HIS.out, rfl, hbe⟩)
            rw [results_cell_tmp rfl]
            go_simp
            try exact ⟨rfl, rfl, rfl, rfl, rfl⟩
        · have HIS := Lib.hid (show ¬ IsIno s from fun h => by have := HDI.out.2 h; rw [hD] at this; cases this)
          clear hD x0 x1 x2 x3 x4 x5
          go_wp2_with (refine wpList_store_ino (i := noI) rfl _ _ rfl rfl rfl _ rfl HZ4.out ?_)
          intro w5 h5 hl5 hs5 _
          obtain ⟨y0, y1, y2, y3, y4, y5⟩ := InoAt.cells h5
          have hbe : Below w.heap.size w w5 := HB4.out.trans hl5
          clear hl5 hs5 h5
          dsimp only [noI] at *
          go_wp2
          refine bodyPost_ret (v := .tuple #[inoV noI (.slice none 0 0), .int .i64 80]) ?_ rfl (.inr ⟨HIS.out, rfl, hbe⟩)
          rw [results_cell_tmp rfl]
          go_simp
          try exact ⟨rfl, rfl, rfl, rfl, rfl⟩
      · have t1 : decide ((k : Int) < cn) = false := decide_eq_false hlc
        clear hlc hn10 hX hZ hb hR
        obtain ⟨ad, cap, rfl, -⟩ := shape_of HR.out
        have hX := HX5.out
        obtain ⟨x0, x1, x2, x3, x4, x5⟩ : wr.cell? ⟨w.heap.size + 1, 0, none⟩ = some (.int .i64 kd) ∧ wr.cell? ⟨w.heap.size + 1, 1, none⟩ = some (.bool pn) ∧ wr.cell? ⟨w.heap.size + 1, 2, none⟩ = some (.int .i64 lk) ∧ wr.cell? ⟨w.heap.size + 1, 3, none⟩ = some (.int .i64 sz) ∧ wr.cell? ⟨w.heap.size + 1, 4, none⟩ = some (.int .i64 dp) ∧ wr.cell? ⟨w.heap.size + 1, 5, none⟩ = some (.slice ad (ES k).length cap) := ⟨hX.cell 0, hX.cell 1, hX.cell 2, hX.cell 3, hX.cell 4, hX.cell 5⟩
        clear hX
        go_wp2_with fail
        refine (EN.out (.slice ad (ES k).length cap) wr (entsAt_in HR.out)).mono ?_; rintro e w4 ⟨rfl, b4⟩
        have HX4 := Lib.hid (HX5.out.kept1 b4)
        have HZ4 := Lib.hid (HZ.out.kept1 b4)
        have HR4 := Lib.hid (row_kept HR.out b4)
        have HB4 := Lib.hid (bnext HB.out b4)
        clear x0 x1 x2 x3 x4 x5 b4 HX5 HZ HB HR EN
        have hX := HX4.out
        obtain ⟨x0, x1, x2, x3, x4, x5⟩ : w4.cell? ⟨w.heap.size + 1, 0, none⟩ = some (.int .i64 kd) ∧ w4.cell? ⟨w.heap.size + 1, 1, none⟩ = some (.bool pn) ∧ w4.cell? ⟨w.heap.size + 1, 2, none⟩ = some (.int .i64 lk) ∧ w4.cell? ⟨w.heap.size + 1, 3, none⟩ = some (.int .i64 sz) ∧ w4.cell? ⟨w.heap.size + 1, 4, none⟩ = some (.int .i64 dp) ∧ w4.cell? ⟨w.heap.size + 1, 5, none⟩ = some (.slice ad (ES k).length cap) := ⟨hX.cell 0, hX.cell 1, hX.cell 2, hX.cell 3, hX.cell 4, hX.cell 5⟩
        clear hX
        rcases HCD.out with ⟨rfl, hD⟩ | ⟨rfl, hD⟩
        · cases hDv : D with
          | true =>
            rw [hDv] at hD
            have HIS := Lib.hid (HDI.out.1 hDv)
            clear hDv
            go_wp2_with (refine wpList_store_ino (i := ⟨kd, pn, lk, sz, dp, ES k⟩) rfl _ _ rfl rfl rfl _ rfl HZ4.out ?_)
            intro w5 h5 hl5 hs5 he5
            obtain ⟨y0, y1, y2, y3, y4, y5⟩ := InoAt.cells h5
            have hbe : Below w.heap.size w w5 := HB4.out.trans hl5
            have hRe : EntsAt w.heap.size (.slice ad (ES k).length cap) (ES k) w5 := row_down (show w.heap.size ≤ w.heap.size + 2 by omega) (row_same' HR4.out fun j hj => he5 j (by omega))
            clear hl5 hs5 he5 h5 x0 x1 x2 x3 x4 x5
            dsimp only at *
            go_wp2
            refine bodyPost_ret (v := .tuple #[inoV ⟨kd, pn, lk, sz, dp, ES k⟩ (.slice ad (ES k).length cap), .int .i64 0]) ?_ rfl (.inl ⟨HIS.out, _, by rw [HPN.out], hRe, hbe⟩)
            rw [results_cell_tmp rfl]
            go_simp
          | false =>
            rw [hDv] at hD
            have HIS := Lib.hid (show ¬ IsIno s from fun h => by have := HDI.out.2 h; rw [hDv] at this; cases this)
            clear hDv x0 x1 x2 x3 x4 x5
            go_wp2_with (refine wpList_store_ino (i := noI) rfl _ _ rfl rfl rfl _ rfl HZ4.out ?_)
            intro w5 h5 hl5 hs5 _
            obtain ⟨y0, y1, y2, y3, y4, y5⟩ := InoAt.cells h5
            have hbe : Below w.heap.size w w5 := HB4.out.trans hl5
            clear hl5 hs5 h5
            dsimp only [noI] at *
            go_wp2
            refine bodyPost_ret (v := .tuple #[inoV noI (.slice none 0 0), .int .i64 80]) ?_ rfl (.inr ⟨HIS.out, rfl, hbe⟩)
            rw [results_cell_tmp rfl]
            go_simp
            try exact ⟨rfl, rfl, rfl, rfl, rfl⟩
        · have HIS := Lib.hid (show ¬ IsIno s from fun h => by have := HDI.out.2 h; rw [hD] at this; cases this)
          clear hD x0 x1 x2 x3 x4 x5
          go_wp2_with (refine wpList_store_ino (i := noI) rfl _ _ rfl rfl rfl _ rfl HZ4.out ?_)
          intro w5 h5 hl5 hs5 _
          obtain ⟨y0, y1, y2, y3, y4, y5⟩ := InoAt.cells h5
          have hbe : Below w.heap.size w w5 := HB4.out.trans hl5
          clear hl5 hs5 h5
          dsimp only [noI] at *
          go_wp2
          refine bodyPost_ret (v := .tuple #[inoV noI (.slice none 0 0), .int .i64 80]) ?_ rfl (.inr ⟨HIS.out, rfl, hbe⟩)
          rw [results_cell_tmp rfl]
          go_simp
          try exact ⟨rfl, rfl, rfl, rfl, rfl⟩
end Go.Proofs.Ytfepjjjoikcljaa
