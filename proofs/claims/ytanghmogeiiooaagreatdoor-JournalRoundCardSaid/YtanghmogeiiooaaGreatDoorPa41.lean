import Derived.Test.YtanghmogeiiooaaGreatDoorPa20
import Derived.Test.YtanghmogeiiooaaGreatDoorPa36
import Derived.Test.YtanghmogeiiooaaGreatDoorPa37
import Derived.Test.YtanghmogeiiooaaGreatDoorPa40
import Derived.Test.YtanghmogeiiooaaGreatDoorPa02
set_option linter.unusedVariables false
set_option linter.unusedSimpArgs false
set_option linter.constructorNameAsVariable false
/- What Replay does with a device. -/
namespace Go.Proofs.YtanghmogeiiooaaGreatDoor
set_option linter.unusedVariables false
open Go.RowKit

def onlyOk (c : Int) (v : Value) : Value := if c = 0 then v else .slice none 0 0
theorem onlyOk_yes (v : Value) : onlyOk 0 v = v := rfl
theorem onlyOk_no {c : Int} (h : c ≠ 0) (v : Value) : onlyOk c v = .slice none 0 0 := if_neg h
/-- what Replay does with a device -/
def replD (S : St) (b l : Nat) (r : List Tx × Nat) : List Deed :=
  writesD (homeL b (net r.1)) ++ [.flush, .write 1 (blk (headR ((((readR (rText S 1)).pos.toNat + r.2) % ((l : Int) - 1).toNat : Nat) : Int).toNat (((readR (rText S 1)).seq + r.1.length) % 18446744073709551616))), .flush]
theorem rtext_at {S : St} {x : Nat} {d : ByteArray} (h1 : x < S.n) : rText (S.wrote x d) (x : Int) = d := by
  have := rText_wrote_at (S := S) (x := (x : Int)) (d := d) (by omega) (by omega)
  rwa [Int.toNat_natCast] at this
theorem rtext_ne {S : St} {x : Nat} {y : Int} {d : ByteArray} (h : y ≠ (x : Int)) : rText (S.wrote x d) y = rText S y := by
  have := rText_wrote_ne (S := S) (x := (x : Int)) (y := y) (d := d) (by omega) h
  rwa [Int.toNat_natCast] at this
theorem wrote_n (S : St) (x : Nat) (d : ByteArray) : (S.wrote x d).n = S.n := rfl
theorem flushed_n (S : St) : S.flushed.n = S.n := rfl
theorem zeros_no : ¬ IsBlk zeros := by
  rw [← zeros_bs]
  intro h
  have h2 := isBlk_begins h
  have := begins_list h2
  rw [bs_list] at this
  have h3 : zeroL 128 = 0 :: zeroL 127 := rfl
  rw [h3] at this
  simp at this
theorem rText_all_same {n : Nat} {z : ByteArray} {y : Int} : ∀ (C : List (Int × ByteArray)) (S : St), S.n = n → 0 ≤ y → y < (n : Int) → (∀ c ∈ C, 0 ≤ c.1 ∧ c.2 = z) → rText S y = z → rText (runD S (writesD C)) y = z
  | [], S, hn, h0, h1, hc, h => h
  | c :: C, S, hn, h0, h1, hc, h => by
    have h2 := hc c (List.mem_cons_self ..)
    show rText (runD (S.wrote c.1.toNat c.2) (writesD C)) y = z
    refine rText_all_same C _ hn h0 h1 (fun x hx => hc x (List.mem_cons_of_mem _ hx)) ?_
    by_cases e : y = c.1
    · subst e; rw [rText_wrote_at h0 (by show _ < ((S.n : Nat) : Int); omega), h2.2]
    · rw [rText_wrote_ne h2.1 e, h]
end Go.Proofs.YtanghmogeiiooaaGreatDoor

/- The log behind a commit, behind a checkpoint. -/
namespace Go.Proofs.YtanghmogeiiooaaGreatDoor
set_option linter.unusedVariables false
open Go.RowKit

theorem mod_ne {m x i : Nat} (h0 : 0 < i) (h : i < m) : x % m ≠ (x + i) % m := fun e => by
  have := Nat.sub_mod_eq_zero_of_mod_eq e.symm
  rw [Nat.add_sub_cancel_left, Nat.mod_eq_of_lt h] at this
  omega
theorem slots_home {l s N : Nat} (hl : 128 ≤ l ∧ l ≤ 512) (B : List ByteArray) : slotsOf 1 (l : Int) s B N = (List.range N).map fun i => (((1 + 1 + (s + i) % (l - 1) : Nat) : Int), (B[i]?).getD ⟨#[]⟩) := by
  unfold slotsOf
  refine List.map_congr_left fun i _ => ?_
  have e : ((l : Int) - 1) = ((l - 1 : Nat) : Int) := by omega
  rw [e]; congr 1
theorem slots_nodup {l s N : Nat} (hl : 128 ≤ l ∧ l ≤ 512) (hN : N ≤ l - 1) (B : List ByteArray) : ((slotsOf 1 (l : Int) s B N).map Prod.fst).Nodup := by
  rw [slots_home hl, List.map_map]
  show List.Pairwise _ _
  rw [List.pairwise_map]
  refine List.pairwise_lt_range.imp_of_mem fun {a b} ha hb hab => ?_
  have hb := List.mem_range.1 hb
  have := mod_ne (m := l - 1) (x := s + a) (i := b - a) (by omega) (by omega)
  rw [show s + a + (b - a) = s + b by omega] at this
  show ((1 + 1 + (s + a) % (l - 1) : Nat) : Int) ≠ ((1 + 1 + (s + b) % (l - 1) : Nat) : Int)
  omega
/-- what a commit leaves in the log -/
theorem commit_texts {S : St} {l slot seq : Nat} {b : Int} {L D : List (Int × ByteArray)} {R : List Int} (hl : 128 ≤ l ∧ l ≤ 512) (hn : l + 1 ≤ S.n) (hb : b ≤ (S.n : Int)) (hD : chgsOk (hmB b 1 l) D = true) (hN : sizeT L.length R.length ≤ l - 1) :
    (∀ i (h : i < (blocksT seq L R).length), rText (runD S (commitD slot l seq L R D)) ((1 + 1 + (slot + i) % (l - 1) : Nat) : Int) = (blocksT seq L R)[i]) ∧
    (∀ y : Int, 1 ≤ y → y < l + 1 → (∀ i, i < sizeT L.length R.length → y ≠ ((1 + 1 + (slot + i) % (l - 1) : Nat) : Int)) → rText (runD S (commitD slot l seq L R D)) y = rText S y) := by
  obtain ⟨d1, d2⟩ := chgsOk_get hD
  have hlen := blocksT_length seq L R
  generalize hC : slotsOf 1 (l : Int) slot (blocksT seq L R) (sizeT L.length R.length) = C
  have hCn : (C.map Prod.fst).Nodup := by rw [← hC]; exact slots_nodup hl hN _
  have hCm : ∀ c ∈ C, ∃ i, i < sizeT L.length R.length ∧ c = (((1 + 1 + (slot + i) % (l - 1) : Nat) : Int), ((blocksT seq L R)[i]?).getD ⟨#[]⟩) := by
    intro c hc
    rw [← hC, slots_home hl] at hc
    obtain ⟨i, hi, rfl⟩ := List.mem_map.1 hc
    exact ⟨i, List.mem_range.1 hi, rfl⟩
  have hDh : ∀ c ∈ D, 0 ≤ c.1 ∧ c.1 < b ∧ ¬ (1 ≤ c.1 ∧ c.1 < 1 + (l : Int)) := fun c hc => by
    have := (d2 c hc).1
    unfold hmB at this
    exact of_decide_eq_true this
  have hmod : ∀ i, (slot + i) % (l - 1) < l - 1 := fun i => Nat.mod_lt _ (by omega)
  have hall : ((D ++ C).map Prod.fst).Nodup := by
    rw [List.map_append]
    refine List.nodup_append.2 ⟨up_nodup d1, hCn, fun x hx y hy => ?_⟩
    obtain ⟨c, hc, rfl⟩ := List.mem_map.1 hx
    obtain ⟨c', hc', rfl⟩ := List.mem_map.1 hy
    obtain ⟨i, hi, rfl⟩ := hCm c' hc'
    have h1 := hDh c hc
    have h2 := hmod i
    show c.1 ≠ ((1 + 1 + (slot + i) % (l - 1) : Nat) : Int)
    omega
  have hf : ∀ c ∈ D ++ C, 0 ≤ c.1 ∧ c.1 < (S.n : Int) := fun c hc => by
    rcases List.mem_append.1 hc with hc | hc
    · have := hDh c hc; omega
    · obtain ⟨i, hi, rfl⟩ := hCm c hc
      have := hmod i
      show 0 ≤ ((1 + 1 + (slot + i) % (l - 1) : Nat) : Int) ∧ _
      constructor
      · omega
      · show ((1 + 1 + (slot + i) % (l - 1) : Nat) : Int) < _; omega
  refine ⟨fun i hi => ?_, fun y h1 h2 hy => ?_⟩
  · rw [rText_run, filter_commit, hC]
    have hm : ((((1 + 1 + (slot + i) % (l - 1) : Nat) : Int)), (blocksT seq L R)[i]) ∈ D ++ C := by
      refine List.mem_append.2 (.inr ?_)
      rw [← hC, slots_home hl]
      refine List.mem_map.2 ⟨i, List.mem_range.2 (by omega), ?_⟩
      rw [List.getElem?_eq_getElem hi]; rfl
    exact rText_writes_in hf hall hm
  · rw [rText_run, filter_commit, hC]
    refine rText_writes_out (fun c hc => (hf c hc).1) fun hx => ?_
    rw [List.map_append, List.mem_append] at hx
    rcases hx with hx | hx
    · obtain ⟨c, hc, rfl⟩ := List.mem_map.1 hx
      have := hDh c hc; omega
    · obtain ⟨c, hc, e⟩ := List.mem_map.1 hx
      obtain ⟨i, hi, rfl⟩ := hCm c hc
      exact hy i hi e.symm
/-- where the blocks of a transaction lie behind the others, it stands -/
theorem LogInv.next {S S' : St} {l p q used : Nat} {b : Int} {ts : List Tx} {L : List (Int × ByteArray)} {R : List Int} (hl : 128 ≤ l ∧ l ≤ 512) (hb2 : b ≤ 4096) (h : LogInv S l (hmB b 1 l) p q ts used)
    (hk : txnOk (hmB b 1 l) L R = true) (hfit : used + sizeT L.length R.length ≤ l - 1) (hq : q + ts.length + 1 < 18446744073709551615)
    (t1 : ∀ i (h : i < (blocksT (q + ts.length) L R).length), rText S' ((1 + 1 + (p + used + i) % (l - 1) : Nat) : Int) = (blocksT (q + ts.length) L R)[i])
    (t2 : ∀ y : Int, 1 ≤ y → y < l + 1 → (∀ i, i < sizeT L.length R.length → y ≠ ((1 + 1 + (p + used + i) % (l - 1) : Nat) : Int)) → rText S' y = rText S y) :
    LogInv S' l (hmB b 1 l) p q (ts ++ [⟨L, R⟩]) (used + sizeT L.length R.length) := by
  obtain ⟨k1, k2, k3, k4⟩ := txnOk_get hk
  obtain ⟨k5, k6⟩ := chgsOk_get k1
  have hlen := blocksT_length (q + ts.length) L R
  have hc := chunks_homes (k := 28) (hm := hmB b 1 l) (by decide) k2 (fun x hx => by have := hm_in (k3 x hx); omega) k3
  have hg := chunks_changes (k := 24) (hm := hmB b 1 l) (by decide) k5 (fun x hx => by have := hm_in (k6 x hx).1; omega) fun x hx => (k6 x hx).1
  have hsq := blocksT_seq (seq := q + ts.length) (by omega) (L := L) (R := R) (fun c hc' => (hc c hc').1) fun g hg' => (hg g hg').1
  generalize hNN : sizeT L.length R.length = N at *
  have u1 : ∀ i (hi : i < (blocksT (q + ts.length) L R).length), slotT S' 1 (l : Int) (p + used + i) = (blocksT (q + ts.length) L R)[i] := fun i hi => by rw [slotT_in hl]; exact t1 i hi
  have u2 : ∀ j, (∀ i, i < N → j % (l - 1) ≠ (p + used + i) % (l - 1)) → slotT S' 1 (l : Int) j = slotT S 1 (l : Int) j := fun j hj => by
    rw [slotT_in hl, slotT_in hl]
    have := Nat.mod_lt j (show 0 < l - 1 by omega)
    exact t2 _ (by omega) (by omega) fun i hi e => hj i hi (by omega)
  have hp := h.pos
  have hst : Stands (slotT S' 1 (l : Int)) (hmB b 1 l) p q (l - 1) 0 [] used ts := stands_same (fun j hj => (u2 (p + j) fun i hi => by
    have := mod_ne (m := l - 1) (x := p + j) (i := used + i - j) (by omega) (by omega)
    rwa [show p + j + (used + i - j) = p + used + i by omega] at this).symm) _ _ _ h.stands
  have hw : stand (slotT S' 1 (l : Int)) (hmB b 1 l) (p + used) (q + ts.length) (l - 1 - used) (l - 1 - used) 0 ⟨[], []⟩ = some (⟨L, R⟩, N) := by
    have hN : N = (chunks 28 R).length + sizeG (chunks 24 L) + 1 := by
      rw [← hlen]; unfold blocksT; rw [List.length_append, bodyOf_length]; rfl
    have := stand_whole (rd := slotT S' 1 (l : Int)) (hm := hmB b 1 l) (p := p + used) (seq := q + ts.length) (left := l - 1 - used) (by omega) (cs := chunks 28 R) (gs := chunks 24 L) (fun i hi => u1 i hi) hc hg (by omega)
    rw [this, chunks_join (by decide), chunks_join (by decide), hN]
  refine ⟨?_, hp, by rw [List.length_append]; simp; omega, by omega, ?_, fun j => ?_⟩
  · have := t2 1 (by omega) (by omega) (fun i _ => by omega)
    rw [this]; exact h.head
  · refine stands_snoc ts 0 [] used hst ?_
    rw [List.nil_append, Nat.mod_eq_of_lt (by omega)]
    exact hw
  · rw [List.length_append, List.length_singleton, ← Nat.add_assoc]
    by_cases hx : ∃ i, i < N ∧ j % (l - 1) = (p + used + i) % (l - 1)
    · obtain ⟨i, hi, e⟩ := hx
      have e2 : slotT S' 1 (l : Int) j = slotT S' 1 (l : Int) (p + used + i) := by rw [slotT_in hl, slotT_in hl, e]
      rw [e2, u1 i (by omega)]
      rcases hsq _ (List.getElem_mem (show i < (blocksT (q + ts.length) L R).length by omega)) with hh | hh
      · exact .inl hh
      · exact .inr (.inl (by omega))
    · rw [u2 j fun i hi e => hx ⟨i, hi, e⟩]
      exact (h.low j).up
theorem LogInv.commit {S : St} {l p q used : Nat} {b : Int} {ts : List Tx} {L D : List (Int × ByteArray)} {R : List Int} (hl : 128 ≤ l ∧ l ≤ 512) (hn : l + 1 ≤ S.n) (hb : b ≤ (S.n : Int)) (hb2 : b ≤ 4096) (h : LogInv S l (hmB b 1 l) p q ts used)
    (hk : txnOk (hmB b 1 l) L R = true) (hD : chgsOk (hmB b 1 l) D = true) (hfit : used + sizeT L.length R.length ≤ l - 1) (hq : q + ts.length + 1 < 18446744073709551615) :
    LogInv (runD S (commitD ((p + used) % (l - 1)) l (q + ts.length) L R D)) l (hmB b 1 l) p q (ts ++ [⟨L, R⟩]) (used + sizeT L.length R.length) := by
  obtain ⟨t1, t2⟩ := commit_texts (S := S) (slot := (p + used) % (l - 1)) (seq := q + ts.length) (L := L) (R := R) hl hn hb hD (by omega)
  simp only [Nat.mod_add_mod] at t1 t2
  exact h.next hl hb2 hk hfit hq t1 t2
/-- where the log's other slots bear what ends no transaction, nothing more stands: what a failing device leaves -/
theorem LogInv.between {S S' : St} {l p q used : Nat} {hm : Int → Bool} {ts : List Tx} (hl : 128 ≤ l ∧ l ≤ 512) (h : LogInv S l hm p q ts used)
    (ht : ∀ y : Int, 1 ≤ y → y < l + 1 → rText S' y = rText S y ∨ (Low (q + ts.length) (rText S' y) ∧ ∃ i, used + i < l - 1 ∧ y = ((1 + 1 + (p + used + i) % (l - 1) : Nat) : Int))) : LogInv S' l hm p q ts used := by
  have hmod : ∀ j, j % (l - 1) < l - 1 := fun j => Nat.mod_lt _ (by omega)
  refine ⟨?_, h.pos, h.seq, h.fit, stands_same (fun j hj => ?_) _ _ _ h.stands, fun j => ?_⟩
  · rcases ht 1 (by omega) (by omega) with e | ⟨_, i, _, e⟩
    · rw [e]; exact h.head
    · omega
  · rw [slotT_in hl, slotT_in hl]
    have := hmod (p + j)
    rcases ht ((1 + 1 + (p + j) % (l - 1) : Nat) : Int) (by omega) (by omega) with e | ⟨_, i, hi, e⟩
    · exact e.symm
    · exfalso
      have h2 := mod_ne (m := l - 1) (x := p + j) (i := used + i - j) (by omega) (by omega)
      rw [show p + j + (used + i - j) = p + used + i by omega] at h2
      omega
  · have hj := h.low j
    rw [slotT_in hl] at hj ⊢
    have := hmod j
    rcases ht ((1 + 1 + j % (l - 1) : Nat) : Int) (by omega) (by omega) with e | ⟨e, _⟩
    · rw [e]; exact hj
    · exact e
/-- the blocks of a transaction ahead of its last end none -/
theorem body_low {seq : Nat} (hs : seq < 18446744073709551616) {L : List (Int × ByteArray)} {R : List Int} (hc : ∀ c ∈ chunks 28 R, HomesOk c 28) (hg : ∀ g ∈ chunks 24 L, HomesOk (g.map Prod.fst) 24) :
    ∀ b ∈ bodyOf seq (chunks 28 R) (chunks 24 L), Low seq b := by
  intro b hb
  unfold bodyOf at hb
  have one : ∀ r : Rec, RecOk r ∧ Fits r → r.seq = seq → r.kind ≠ 4 → Low seq (blk r) := fun r h e k => by
    obtain ⟨_, h2⟩ := isBlk_of h.1 h.2
    exact .inr (.inr ⟨by rw [h2, e], by rw [h2]; exact k⟩)
  rcases List.mem_append.1 hb with h | h
  · obtain ⟨c, hc2, rfl⟩ := List.mem_map.1 h
    exact one _ (revR_ok hs (hc c hc2)) rfl (by show (3 : Int) ≠ 4; decide)
  · obtain ⟨g, hg2, h⟩ := List.mem_flatMap.1 h
    unfold descB at h
    rcases List.mem_cons.1 h with rfl | h
    · exact one _ (descR_ok hs (hg g hg2)) rfl (by show (2 : Int) ≠ 4; decide)
    · obtain ⟨c, _, rfl⟩ := List.mem_map.1 h
      exact .inl (maskV_no c.2)
/-- behind a checkpoint no transaction stands: the log begins where it ended -/
theorem LogInv.check {S : St} {l p q used : Nat} {hm : Int → Bool} {ts : List Tx} (hl : 128 ≤ l ∧ l ≤ 512) (hn : l + 1 ≤ S.n) (h : LogInv S l hm p q ts used) :
    LogInv (runD S (checkD ((p + used) % (l - 1)) (q + ts.length))) l hm ((p + used) % (l - 1)) (q + ts.length) [] 0 := by
  have e : ∀ y : Int, y ≠ 1 → rText (runD S (checkD ((p + used) % (l - 1)) (q + ts.length))) y = rText S y := fun y hy => by
    show rText (((S.flushed).wrote 1 (blk (headR ((p + used) % (l - 1)) (q + ts.length)))).flushed) y = _
    rw [rText_flush]
    exact (rtext_ne (x := 1) (by omega)).trans (rText_flush S y)
  have e1 : rText (runD S (checkD ((p + used) % (l - 1)) (q + ts.length))) 1 = blk (headR ((p + used) % (l - 1)) (q + ts.length)) := by
    show rText (((S.flushed).wrote 1 (blk (headR ((p + used) % (l - 1)) (q + ts.length)))).flushed) 1 = _
    rw [rText_flush]
    exact rtext_at (x := 1) (by show 1 < S.n; omega)
  have hs := h.seq
  refine ⟨e1, Nat.mod_lt _ (by omega), by simp; omega, by omega, rfl, fun i => ?_⟩
  have : slotT (runD S (checkD ((p + used) % (l - 1)) (q + ts.length))) 1 (l : Int) i = slotT S 1 (l : Int) i := by
    rw [slotT_in hl, slotT_in hl]; exact e _ (by omega)
  rw [this]
  simpa using h.low i
end Go.Proofs.YtanghmogeiiooaaGreatDoor

/- The log of a formatted device, and behind a replay; what a replay leaves at home. -/
namespace Go.Proofs.YtanghmogeiiooaaGreatDoor
set_option linter.unusedVariables false
open Go.RowKit

theorem LogInv.format {S : St} {l : Nat} (hm : Int → Bool) (hl : 128 ≤ l ∧ l ≤ 512) (hn : l + 1 ≤ S.n) : LogInv (runD S (fmtD l)) l hm 0 1 [] 0 := by
  have hC := slots_nodup (s := 0) hl (Nat.le_refl (l - 1)) (List.replicate (l - 1) zeros)
  have hmod : ∀ j, j % (l - 1) < l - 1 := fun j => Nat.mod_lt _ (by omega)
  have hCm : ∀ c ∈ slotsOf 1 (l : Int) 0 (List.replicate (l - 1) zeros) (l - 1), 2 ≤ c.1 ∧ c.1 < (l : Int) + 1 := by
    intro c hc
    rw [slots_home hl] at hc
    obtain ⟨i, hi, rfl⟩ := List.mem_map.1 hc
    have := hmod (0 + i)
    show 2 ≤ ((1 + 1 + (0 + i) % (l - 1) : Nat) : Int) ∧ ((1 + 1 + (0 + i) % (l - 1) : Nat) : Int) < _
    omega
  have e : runD S (fmtD l) = (((runD S (writesD (slotsOf 1 (l : Int) 0 (List.replicate (l - 1) zeros) (l - 1)))).flushed).wrote 1 (blk (headR 0 1))).flushed := by
    unfold fmtD; rw [runD_append]; rfl
  have hs : ∀ j, slotT (runD S (fmtD l)) 1 (l : Int) j = zeros := fun j => by
    have hj := hmod j
    rw [slotT_in hl, e, rText_flush, rtext_ne (x := 1) (by omega), rText_flush]
    have hmem : ((((1 + 1 + j % (l - 1) : Nat) : Int)), zeros) ∈ slotsOf 1 (l : Int) 0 (List.replicate (l - 1) zeros) (l - 1) := by
      rw [slots_home hl]
      refine List.mem_map.2 ⟨j % (l - 1), List.mem_range.2 hj, ?_⟩
      rw [Nat.zero_add, Nat.mod_eq_of_lt hj, List.getElem?_replicate, if_pos hj]; rfl
    exact rText_writes_in (fun c hc => by have := hCm c hc; omega) hC hmem
  refine ⟨?_, by omega, by simp, by omega, rfl, fun i => ?_⟩
  · rw [e, rText_flush]
    exact rtext_at (x := 1) (by rw [flushed_n, runD_n]; omega)
  · rw [hs]; exact .inl zeros_no
theorem replD_is {S : St} {l p q used b : Nat} {hm : Int → Bool} {ts : List Tx} (hl : 128 ≤ l ∧ l ≤ 512) (h : LogInv S l hm p q ts used) :
    replD S b l (ts, used) = writesD (homeL b (net ts)) ++ checkD ((p + used) % (l - 1)) (q + ts.length) := by
  have hz : ((l : Int) - 1).toNat = l - 1 := by omega
  have hs := h.seq
  unfold replD checkD
  rw [(h.head_ok hl).2, hz, Nat.mod_eq_of_lt (show (headR p q).seq + (ts, used).1.length < 18446744073709551616 by show q + ts.length < _; omega)]
  show _ ++ [Deed.flush, .write 1 (blk (headR ((((p : Int).toNat + used) % (l - 1) : Nat) : Int).toNat (q + ts.length))), .flush] = _
  rw [Int.toNat_natCast, Int.toNat_natCast]
theorem net_home {S : St} {l p q used b : Nat} {ts : List Tx} (hl : 128 ≤ l ∧ l ≤ 512) (h : LogInv S l (hmB b 1 l) p q ts used) : ∀ c ∈ homeL b (net ts), 0 ≤ c.1 ∧ c.1 < (b : Int) ∧ ¬ (1 ≤ c.1 ∧ c.1 < 1 + (l : Int)) ∧ net ts c.1 = some c.2 := by
  intro c hc
  obtain ⟨h1, h2, h3⟩ := homeL_below c hc
  obtain ⟨t, ht, hx⟩ := net_mem h3
  obtain ⟨c', hc', e⟩ := List.mem_map.1 hx
  have hh := ((logOf_in (by omega) (h.is hl)).2.2.2.2.2 t ht).homes c' hc'
  rw [e] at hh
  unfold hmB at hh
  have := of_decide_eq_true hh
  exact ⟨h1, h2, this.2.2, h3⟩
theorem LogInv.replay {S : St} {l p q used b : Nat} {ts : List Tx} (hl : 128 ≤ l ∧ l ≤ 512) (hn : l + 1 ≤ S.n) (h : LogInv S l (hmB b 1 l) p q ts used) :
    LogInv (runD S (replD S b l (ts, used))) l (hmB b 1 l) ((p + used) % (l - 1)) (q + ts.length) [] 0 := by
  rw [replD_is hl h, runD_append]
  have hh := net_home hl h
  have h1 : LogInv (runD S (writesD (homeL b (net ts)))) l (hmB b 1 l) p q ts used := h.same hl fun x h1 h2 => rText_writes_out (fun c hc => (hh c hc).1) fun hx => by
    obtain ⟨c, hc, e⟩ := List.mem_map.1 hx
    have := hh c hc
    omega
  exact h1.check hl (by rw [runD_n]; exact hn)
theorem homeL_mem {m : Int → Option ByteArray} {y : Nat} {d : ByteArray} : ∀ {n : Nat}, y < n → m (y : Int) = some d → ((y : Int), d) ∈ homeL n m := by
  intro n hy hm
  unfold homeL
  exact List.mem_filterMap.2 ⟨y, List.mem_range.2 hy, by rw [hm]; rfl⟩
/-- what stands outside of the log behind a replay -/
theorem replay_text {S : St} {l p q used b : Nat} {ts : List Tx} (hl : 128 ≤ l ∧ l ≤ 512) (hn : b ≤ S.n) (h : LogInv S l (hmB b 1 l) p q ts used) (y : Nat) (hy : y < b) (h1 : y ≠ 1) :
    rText (runD S (replD S b l (ts, used))) (y : Int) = (net ts (y : Int)).getD (rText S (y : Int)) := by
  have hh := net_home hl h
  rw [replD_is hl h, runD_append]
  have e : ∀ S' : St, rText (runD S' (checkD ((p + used) % (l - 1)) (q + ts.length))) (y : Int) = rText S' (y : Int) := fun S' => by
    show rText (((S'.flushed).wrote 1 (blk (headR ((p + used) % (l - 1)) (q + ts.length)))).flushed) (y : Int) = _
    rw [rText_flush]
    exact (rtext_ne (x := 1) (by omega)).trans (rText_flush S' (y : Int))
  rw [e]
  cases hv : net ts (y : Int) with
  | none =>
    refine rText_writes_out (fun c hc => (hh c hc).1) fun hx => ?_
    obtain ⟨c, hc, e⟩ := List.mem_map.1 hx
    have := (hh c hc).2.2.2
    rw [e, hv] at this; cases this
  | some d => exact rText_writes_in (fun c hc => ⟨(hh c hc).1, by have := (hh c hc).2.1; omega⟩) (up_nodup (homeL_up b)) (homeL_mem hy hv)
/-- what stands outside of the log behind a commit -/
theorem commit_out {S : St} {l slot seq : Nat} {b : Int} {L D : List (Int × ByteArray)} {R : List Int} (hl : 128 ≤ l ∧ l ≤ 512) (hD : chgsOk (hmB b 1 l) D = true) (y : Int) (h : ¬ (1 ≤ y ∧ y < 1 + (l : Int))) (hy : y ∉ D.map Prod.fst) :
    rText (runD S (commitD slot l seq L R D)) y = rText S y := by
  obtain ⟨d1, d2⟩ := chgsOk_get hD
  rw [rText_run, filter_commit]
  have hmod : ∀ j, j % (l - 1) < l - 1 := fun j => Nat.mod_lt _ (by omega)
  refine rText_writes_out (fun c hc => ?_) fun hx => ?_
  · rcases List.mem_append.1 hc with hc | hc
    · have := hm_in (d2 c hc).1; omega
    · rw [slots_home hl] at hc
      obtain ⟨i, hi, rfl⟩ := List.mem_map.1 hc
      show 0 ≤ ((1 + 1 + (slot + i) % (l - 1) : Nat) : Int); omega
  · rw [List.map_append, List.mem_append] at hx
    rcases hx with hx | hx
    · exact hy hx
    · obtain ⟨c, hc, e⟩ := List.mem_map.1 hx
      rw [slots_home hl] at hc
      obtain ⟨i, hi, rfl⟩ := List.mem_map.1 hc
      have := hmod (slot + i)
      have e : ((1 + 1 + (slot + i) % (l - 1) : Nat) : Int) = y := e
      omega
end Go.Proofs.YtanghmogeiiooaaGreatDoor

/- What a failing device leaves of a commit: the log as it was, or with the transaction. -/
namespace Go.Proofs.YtanghmogeiiooaaGreatDoor
set_option linter.unusedVariables false
open Go.RowKit

/-- a device on which nothing is pending, or only what is there -/
def Clean (S : St) : Prop := ∀ x, x < S.n → S.now x = S.was x
/-- what may be left of a device: of each block what was durable, or what was pending -/
structure Left (S S' : St) : Prop where
  n : S'.n = S.n
  text : ∀ x, x < S.n → S'.now x = S.was x ∨ (S.pend x = true ∧ S'.now x = S.now x)
  clean : Clean S'
theorem clean_flushed (S : St) : Clean S.flushed := fun x _ => rfl
theorem Left.self {S : St} (h : Clean S) : Left S S := ⟨rfl, fun x hx => .inl (h x hx), h⟩
/-- each text is one that was there, or one that was written -/
theorem left_text {S0 S' : St} {L : List Deed} (y : Nat) (hc : S0.now y = S0.was y) (hf : ∀ a ∈ L, a.fine S0.n) (h : Left (runD S0 L) S') (hy : y < S0.n) : rText S' (y : Int) = rText S0 (y : Int) ∨ ∃ d, Deed.write (y : Int) d ∈ L ∧ rText S' (y : Int) = d := by
  have key : ∀ (M : List Deed) (S : St), (∀ a ∈ M, a ∈ L) → S.n = S0.n → (S.now y = S0.now y ∨ Deed.write (y : Int) (S.now y) ∈ L) → (S.was y = S0.now y ∨ Deed.write (y : Int) (S.was y) ∈ L) →
      ((runD S M).now y = S0.now y ∨ Deed.write (y : Int) ((runD S M).now y) ∈ L) ∧ ((runD S M).was y = S0.now y ∨ Deed.write (y : Int) ((runD S M).was y) ∈ L) := by
    intro M
    induction M with
    | nil => intro S _ _ h1 h2; exact ⟨h1, h2⟩
    | cons a M ih =>
      intro S hm hn h1 h2
      cases a with
      | flush => exact ih S.flushed (fun x hx => hm x (List.mem_cons_of_mem _ hx)) hn h1 h1
      | write b d =>
        refine ih (S.wrote b.toNat d) (fun x hx => hm x (List.mem_cons_of_mem _ hx)) hn ?_ h2
        show upd S.now b.toNat d y = _ ∨ Deed.write (y : Int) (upd S.now b.toNat d y) ∈ L
        by_cases e : y = b.toNat
        · have hb := hf _ (hm _ (List.mem_cons_self ..))
          have hb0 : 0 ≤ b := hb.1
          have e2 : (y : Int) = b := by omega
          rw [e, upd_same]
          refine .inr ?_
          rw [← e, e2]
          exact hm _ (List.mem_cons_self ..)
        · rw [upd_other _ e]; exact h1
  obtain ⟨k1, k2⟩ := key L S0 (fun a h => h) rfl (.inl rfl) (.inl hc.symm)
  have hn : (runD S0 L).n = S0.n := runD_n _ _
  have r0 : rText S0 (y : Int) = S0.now y := by rw [rText_in (by omega) (by omega), Int.toNat_natCast]
  have r1 : rText S' (y : Int) = S'.now y := by rw [rText_in (by omega) (by rw [h.n, hn]; omega), Int.toNat_natCast]
  rw [r0, r1]
  rcases h.text y (by omega) with e | ⟨_, e⟩
  · rw [e]; exact k2.imp id fun hh => ⟨_, hh, rfl⟩
  · rw [e]; exact k1.imp id fun hh => ⟨_, hh, rfl⟩
theorem left_texts {S0 S' : St} {L : List Deed} (hc : Clean S0) (hf : ∀ a ∈ L, a.fine S0.n) (h : Left (runD S0 L) S') (y : Nat) (hy : y < S0.n) : rText S' (y : Int) = rText S0 (y : Int) ∨ ∃ d, Deed.write (y : Int) d ∈ L ∧ rText S' (y : Int) = d :=
  left_text y (hc y hy) hf h hy
theorem slots_size {l s N : Nat} {B : List ByteArray} {n : Nat} (hl : 128 ≤ l ∧ l ≤ 512) (hn : l + 1 ≤ n) (hN : N ≤ B.length) (hB : ∀ x ∈ B, x.size = 128) : ∀ c ∈ slotsOf 1 (l : Int) s B N, 2 ≤ c.1 ∧ c.1 < (l : Int) + 1 ∧ c.1 < (n : Int) ∧ c.2.size = 128 := by
  intro c hc
  rw [slots_home hl] at hc
  obtain ⟨i, hi, rfl⟩ := List.mem_map.1 hc
  have hi := List.mem_range.1 hi
  have := Nat.mod_lt (s + i) (show 0 < l - 1 by omega)
  refine ⟨?_, ?_, ?_, ?_⟩
  · show 2 ≤ ((1 + 1 + (s + i) % (l - 1) : Nat) : Int); omega
  · show ((1 + 1 + (s + i) % (l - 1) : Nat) : Int) < _; omega
  · show ((1 + 1 + (s + i) % (l - 1) : Nat) : Int) < _; omega
  · rw [List.getElem?_eq_getElem (by omega)]; exact hB _ (List.getElem_mem _)
theorem blocksT_size {seq : Nat} (hq : seq < 18446744073709551616) {L : List (Int × ByteArray)} {R : List Int} (hc : ∀ c ∈ chunks 28 R, HomesOk c 28) (hg : ∀ g ∈ chunks 24 L, HomesOk (g.map Prod.fst) 24) (hz : ∀ c ∈ L, c.2.size = 128) : ∀ x ∈ blocksT seq L R, x.size = 128 := by
  intro x hx
  unfold blocksT at hx
  rcases List.mem_append.1 hx with h | h
  · refine body_size hq hc (fun g hgm => ⟨hg g hgm, fun c hcm => hz c ?_⟩) x h
    have := chunks_join (k := 24) (by decide) L
    rw [← this]; exact List.mem_flatten.2 ⟨g, hgm, hcm⟩
  · rw [List.mem_singleton.1 h]
    exact blk_size (comR_ok hq (moreV_lt _ _ (by omega))).1
theorem commit_fine {n l slot seq : Nat} {b : Int} {L D : List (Int × ByteArray)} {R : List Int} (hl : 128 ≤ l ∧ l ≤ 512) (hn : l + 1 ≤ n) (hb : b ≤ (n : Int)) (hb2 : b ≤ 4096) (hq : seq < 18446744073709551616) (hk : txnOk (hmB b 1 l) L R = true) (hD : chgsOk (hmB b 1 l) D = true) :
    ∀ a ∈ commitD slot l seq L R D, a.fine n := by
  obtain ⟨k1, k2, k3, k4⟩ := txnOk_get hk
  obtain ⟨k5, k6⟩ := chgsOk_get k1
  obtain ⟨d1, d2⟩ := chgsOk_get hD
  have hc := chunks_homes (k := 28) (hm := hmB b 1 l) (by decide) k2 (fun x hx => by have := hm_in (k3 x hx); omega) k3
  have hg := chunks_changes (k := 24) (hm := hmB b 1 l) (by decide) k5 (fun x hx => by have := hm_in (k6 x hx).1; omega) fun x hx => (k6 x hx).1
  have hz := blocksT_size hq (fun c h => (hc c h).1) (fun g h => (hg g h).1) fun c h => (k6 c h).2
  have hC := slots_size (s := slot) (N := sizeT L.length R.length) (n := n) hl hn (by rw [blocksT_length]; exact Nat.le_refl _) hz
  have hDf : ∀ c ∈ D, 0 ≤ c.1 ∧ c.1 < (n : Int) ∧ c.2.size = 128 := fun c h => by have := hm_in (d2 c h).1; exact ⟨this.1, by omega, (d2 c h).2⟩
  unfold commitD
  refine fine_append (writes_fine hDf) (fine_append (writes_fine fun c h => ?_) fun a ha => ?_)
  · have := hC c (List.mem_of_mem_take h); exact ⟨by omega, this.2.2.1, this.2.2.2⟩
  · rcases List.mem_cons.1 ha with rfl | ha
    · trivial
    · refine fine_append (writes_fine fun c h => ?_) fine_flush a ha
      have := hC c (List.mem_of_mem_drop h); exact ⟨by omega, this.2.2.1, this.2.2.2⟩
/-- where the last block of a commit was written, all others are durable -/
theorem commit_done {S0 S' : St} {l slot seq : Nat} {b : Int} {L D : List (Int × ByteArray)} {R : List Int} (hcl : Clean S0) (hl : 128 ≤ l ∧ l ≤ 512) (hn : l + 1 ≤ S0.n) (hD : chgsOk (hmB b 1 l) D = true) (hb : b ≤ (S0.n : Int))
    (hfine : ∀ a ∈ commitD slot l seq L R D, a.fine S0.n) {K : Nat} (hK : sizeT L.length R.length = K + 1) (hfit : K + 1 ≤ l - 1)
    (k : Nat) (hL : Left (runD S0 ((commitD slot l seq L R D).take k)) S') (hd : rText S' ((1 + 1 + (slot + K) % (l - 1) : Nat) : Int) ≠ rText S0 ((1 + 1 + (slot + K) % (l - 1) : Nat) : Int)) :
    ∀ i (hi : i < (blocksT seq L R).length), i < K → rText S' ((1 + 1 + (slot + i) % (l - 1) : Nat) : Int) = (blocksT seq L R)[i] := by
  have hmod : ∀ j, j % (l - 1) < l - 1 := fun j => Nat.mod_lt _ (by omega)
  have hlen := blocksT_length seq L R
  have hDo : ∀ c ∈ D, ¬ (1 ≤ c.1 ∧ c.1 < 1 + (l : Int)) ∧ 0 ≤ c.1 ∧ c.1 < (S0.n : Int) := fun c hc => by
    have := ((chgsOk_get hD).2 c hc).1
    unfold hmB at this
    have := of_decide_eq_true this
    exact ⟨this.2.2, this.1, by omega⟩
  have hne : ∀ i, i < K → (slot + i) % (l - 1) ≠ (slot + K) % (l - 1) := fun i hi => by
    have := mod_ne (m := l - 1) (x := slot + i) (i := K - i) (by omega) (by omega)
    rwa [show slot + i + (K - i) = slot + K by omega] at this
  obtain ⟨f, hf⟩ : ∃ f : Nat → Int × ByteArray, f = fun i => (((1 + 1 + (slot + i) % (l - 1) : Nat) : Int), ((blocksT seq L R)[i]?).getD ⟨#[]⟩) := ⟨_, rfl⟩
  have hC : slotsOf 1 (l : Int) slot (blocksT seq L R) (K + 1) = (List.range K).map f ++ [f K] := by
    rw [slots_home hl, ← hf, List.range_succ, List.map_append]; rfl
  have hM : commitD slot l seq L R D = writesD (D ++ (List.range K).map f) ++ (.flush :: (writesD [f K] ++ [.flush])) := by
    unfold commitD
    simp only [hK, Nat.add_sub_cancel]
    rw [hC, List.take_left' (by simp), List.drop_left' (by simp), show writesD (D ++ List.map f (List.range K)) = writesD D ++ writesD (List.map f (List.range K)) from List.map_append .., List.append_assoc]
  have hX : ∀ y d, Deed.write y d ∈ writesD (D ++ (List.range K).map f) → (∃ c ∈ D, c.1 = y) ∨ ∃ i, i < K ∧ y = ((1 + 1 + (slot + i) % (l - 1) : Nat) : Int) := fun y d hm => by
    obtain ⟨c, hc, e⟩ := List.mem_map.1 hm
    injection e with e1 e2
    rcases List.mem_append.1 hc with hc | hc
    · exact .inl ⟨c, hc, e1⟩
    · obtain ⟨i, hi, rfl⟩ := List.mem_map.1 hc
      exact .inr ⟨i, List.mem_range.1 hi, by rw [← e1, hf]⟩
  generalize hA : writesD (D ++ (List.range K).map f) = A at *
  rw [hM] at hL hfine
  have hbig : A.length + 2 ≤ k := by
    refine Decidable.byContradiction fun hk => hd ?_
    rcases left_texts hcl (fun a ha => hfine a (List.mem_of_mem_take ha)) hL (1 + 1 + (slot + K) % (l - 1)) (by have := hmod (slot + K); omega) with e | ⟨d, hm, -⟩
    · exact e
    · exfalso
      rw [List.take_append, List.mem_append] at hm
      rcases hm with hm | hm
      · rcases hX _ _ (List.mem_of_mem_take hm) with ⟨c, hc, e⟩ | ⟨i, hi, e⟩
        · have := hDo c hc; have := hmod (slot + K); omega
        · have := hne i hi; omega
      · have : k - A.length = 0 ∨ k - A.length = 1 := by omega
        rcases this with e | e <;> rw [e] at hm
        · simp at hm
        · simp at hm
  intro i hi hiK
  have e : (A ++ (Deed.flush :: (writesD [f K] ++ [Deed.flush]))).take k = (A ++ [Deed.flush]) ++ (writesD [f K] ++ [Deed.flush]).take (k - A.length - 1) := by
    rw [List.take_append, List.take_of_length_le (by omega), List.append_assoc]
    congr 1
    rw [show k - A.length = (k - A.length - 1) + 1 by omega, List.take_succ_cons, Nat.add_sub_cancel]; rfl
  rw [e, runD_append] at hL
  have hcl1 : Clean (runD S0 (A ++ [.flush])) := by rw [runD_append]; exact clean_flushed _
  have hn1 : (runD S0 (A ++ [.flush])).n = S0.n := runD_n _ _
  rcases left_texts hcl1 (fun a ha => by rw [hn1]; exact hfine a (List.mem_append.2 (.inr (List.mem_cons_of_mem _ (List.mem_of_mem_take ha))))) hL (1 + 1 + (slot + i) % (l - 1)) (by rw [hn1]; have := hmod (slot + i); omega) with e2 | ⟨d, hm, -⟩
  · rw [e2, runD_append]
    show rText (runD S0 A).flushed _ = _
    rw [rText_flush, ← hA]
    have hmem : ((((1 + 1 + (slot + i) % (l - 1) : Nat) : Int)), (blocksT seq L R)[i]) ∈ D ++ (List.range K).map f := by
      refine List.mem_append.2 (.inr (List.mem_map.2 ⟨i, List.mem_range.2 hiK, ?_⟩))
      rw [hf]; simp only; rw [List.getElem?_eq_getElem hi]; rfl
    have hnd : ((D ++ (List.range K).map f).map Prod.fst).Nodup := by
      rw [List.map_append]
      refine List.nodup_append.2 ⟨up_nodup (chgsOk_get hD).1, ?_, fun x hx y hy => ?_⟩
      · have := slots_nodup (s := slot) hl hfit (blocksT seq L R)
        rw [hC, List.map_append] at this
        exact (List.nodup_append.1 this).1
      · obtain ⟨c, hc, rfl⟩ := List.mem_map.1 hx
        obtain ⟨c', hc', rfl⟩ := List.mem_map.1 hy
        obtain ⟨j, hj, rfl⟩ := List.mem_map.1 hc'
        have h1 := hDo c hc
        have h2 := hmod (slot + j)
        rw [hf]
        show c.1 ≠ ((1 + 1 + (slot + j) % (l - 1) : Nat) : Int)
        omega
    refine rText_writes_in (fun c hc => ?_) hnd hmem
    rcases List.mem_append.1 hc with hc | hc
    · exact (hDo c hc).2
    · obtain ⟨j, hj, rfl⟩ := List.mem_map.1 hc
      have := hmod (slot + j)
      rw [hf]
      show 0 ≤ ((1 + 1 + (slot + j) % (l - 1) : Nat) : Int) ∧ ((1 + 1 + (slot + j) % (l - 1) : Nat) : Int) < _
      omega
  · exfalso
    have hm := List.mem_of_mem_take hm
    have := hne i hiK
    rcases List.mem_append.1 hm with hm | hm
    · obtain ⟨c, hc, e3⟩ := List.mem_map.1 hm
      injection e3 with e3 _
      rw [List.mem_singleton.1 hc, hf] at e3
      have e3 : ((1 + 1 + (slot + K) % (l - 1) : Nat) : Int) = ((1 + 1 + (slot + i) % (l - 1) : Nat) : Int) := e3
      omega
    · cases List.mem_singleton.1 hm
/-- a commit that failed somewhere, and whatever was kept of it: the log as it was, or with the transaction; nothing between -/
theorem commit_left {S0 S' : St} {l p q used : Nat} {b : Int} {ts : List Tx} {L D : List (Int × ByteArray)} {R : List Int} (hcl : Clean S0) (hl : 128 ≤ l ∧ l ≤ 512) (hn : l + 1 ≤ S0.n) (hb : b ≤ (S0.n : Int)) (hb2 : b ≤ 4096) (h : LogInv S0 l (hmB b 1 l) p q ts used)
    (hk : txnOk (hmB b 1 l) L R = true) (hD : chgsOk (hmB b 1 l) D = true) (hfit : used + sizeT L.length R.length ≤ l - 1) (hq : q + ts.length + 1 < 18446744073709551615)
    (k : Nat) (hL : Left (runD S0 ((commitD ((p + used) % (l - 1)) l (q + ts.length) L R D).take k)) S') :
    LogInv S' l (hmB b 1 l) p q ts used ∨ LogInv S' l (hmB b 1 l) p q (ts ++ [⟨L, R⟩]) (used + sizeT L.length R.length) := by
  have hfine := commit_fine (n := S0.n) (slot := (p + used) % (l - 1)) (seq := q + ts.length) hl hn hb hb2 (by omega) hk hD
  obtain ⟨k1, k2, k3, k4⟩ := txnOk_get hk
  obtain ⟨k5, k6⟩ := chgsOk_get k1
  obtain ⟨d1, d2⟩ := chgsOk_get hD
  have hc := chunks_homes (k := 28) (hm := hmB b 1 l) (by decide) k2 (fun x hx => by have := hm_in (k3 x hx); omega) k3
  have hg := chunks_changes (k := 24) (hm := hmB b 1 l) (by decide) k5 (fun x hx => by have := hm_in (k6 x hx).1; omega) fun x hx => (k6 x hx).1
  have hlow := body_low (seq := q + ts.length) (by omega) (L := L) (R := R) (fun c hc' => (hc c hc').1) fun g hg' => (hg g hg').1
  have hmod : ∀ j, j % (l - 1) < l - 1 := fun j => Nat.mod_lt _ (by omega)
  have hlen := blocksT_length (q + ts.length) L R
  have hN1 : 1 ≤ sizeT L.length R.length := by unfold sizeT; omega
  have hbl : ∀ i (hi : i < (blocksT (q + ts.length) L R).length), i < sizeT L.length R.length - 1 → Low (q + ts.length) (blocksT (q + ts.length) L R)[i] := fun i hi hi2 => by
    have hbo : (bodyOf (q + ts.length) (chunks 28 R) (chunks 24 L)).length = sizeT L.length R.length - 1 := by
      rw [← hlen]; unfold blocksT; rw [List.length_append]; simp
    have e : (blocksT (q + ts.length) L R)[i] = (bodyOf (q + ts.length) (chunks 28 R) (chunks 24 L))[i]'(by omega) := List.getElem_append_left (by omega)
    rw [e]; exact hlow _ (List.getElem_mem _)
  have hDo : ∀ c ∈ D, ¬ (1 ≤ c.1 ∧ c.1 < 1 + (l : Int)) ∧ 0 ≤ c.1 := fun c hc => by
    have := (d2 c hc).1
    unfold hmB at this
    have := of_decide_eq_true this
    exact ⟨this.2.2, this.1⟩
  -- every write into the log is a block of the transaction
  have hw : ∀ (y : Int) d, Deed.write y d ∈ commitD ((p + used) % (l - 1)) l (q + ts.length) L R D → 1 ≤ y → y < l + 1 → ∃ i, ∃ hi : i < (blocksT (q + ts.length) L R).length, y = ((1 + 1 + (p + used + i) % (l - 1) : Nat) : Int) ∧ d = (blocksT (q + ts.length) L R)[i] := by
    intro y d hm h1 h2
    have hm2 : Deed.write y d ∈ (commitD ((p + used) % (l - 1)) l (q + ts.length) L R D).filter isW := List.mem_filter.2 ⟨hm, rfl⟩
    rw [filter_commit] at hm2
    obtain ⟨c, hc, e⟩ := List.mem_map.1 hm2
    injection e with e1 e2
    rcases List.mem_append.1 hc with hc | hc
    · have := hDo c hc; omega
    · rw [slots_home hl] at hc
      obtain ⟨i, hi, rfl⟩ := List.mem_map.1 hc
      have hi := List.mem_range.1 hi
      have hi2 : i < (blocksT (q + ts.length) L R).length := by omega
      refine ⟨i, hi2, ?_, ?_⟩
      · rw [← e1, Nat.mod_add_mod]
      · rw [← e2, List.getElem?_eq_getElem hi2]; rfl
  have htx : ∀ y : Int, 1 ≤ y → y < l + 1 → rText S' y = rText S0 y ∨ ∃ i, ∃ hi : i < (blocksT (q + ts.length) L R).length, y = ((1 + 1 + (p + used + i) % (l - 1) : Nat) : Int) ∧ rText S' y = (blocksT (q + ts.length) L R)[i] := fun y h1 h2 => by
    obtain ⟨x, rfl⟩ := Int.eq_ofNat_of_zero_le (show 0 ≤ y by omega)
    rcases left_texts hcl (fun a ha => hfine a (List.mem_of_mem_take ha)) hL x (by omega) with e | ⟨d, hd, e⟩
    · exact .inl e
    · obtain ⟨i, hi, e1, e2⟩ := hw _ _ (List.mem_of_mem_take hd) h1 h2
      exact .inr ⟨i, hi, e1, e.trans e2⟩
  by_cases hlast : ∃ hi : sizeT L.length R.length - 1 < (blocksT (q + ts.length) L R).length, rText S' ((1 + 1 + (p + used + (sizeT L.length R.length - 1)) % (l - 1) : Nat) : Int) = (blocksT (q + ts.length) L R)[sizeT L.length R.length - 1] ∧ rText S0 ((1 + 1 + (p + used + (sizeT L.length R.length - 1)) % (l - 1) : Nat) : Int) ≠ (blocksT (q + ts.length) L R)[sizeT L.length R.length - 1]
  · refine .inr (h.next hl hb2 hk hfit hq (fun i hi => ?_) fun y h1 h2 hy => ?_)
    · obtain ⟨hi0, hl1, hl2⟩ := hlast
      obtain ⟨K, hK⟩ : ∃ K, sizeT L.length R.length = K + 1 := ⟨sizeT L.length R.length - 1, by omega⟩
      have hd := commit_done hcl hl hn hD hb hfine hK (by omega) k hL (by
        rw [Nat.mod_add_mod]
        simp only [hK, Nat.add_sub_cancel] at hl1 hl2
        rw [hl1]; exact fun e => hl2 e.symm) i hi
      rw [Nat.mod_add_mod] at hd
      by_cases hi2 : i < K
      · exact hd hi2
      · have hi3 : i = sizeT L.length R.length - 1 := by omega
        subst hi3; exact hl1
    · rcases htx y h1 h2 with e | ⟨i, hi, e, _⟩
      · exact e
      · exact absurd e (hy i (by omega))
  · refine .inl (h.between hl fun y h1 h2 => ?_)
    rcases htx y h1 h2 with e | ⟨i, hi, e1, e2⟩
    · exact .inl e
    · by_cases hi2 : i < sizeT L.length R.length - 1
      · exact .inr ⟨by rw [e2]; exact hbl i hi hi2, i, by omega, e1⟩
      · have hi3 : i = sizeT L.length R.length - 1 := by omega
        subst hi3
        refine .inl ?_
        subst e1
        by_cases e3 : rText S0 ((1 + 1 + (p + used + (sizeT L.length R.length - 1)) % (l - 1) : Nat) : Int) = (blocksT (q + ts.length) L R)[sizeT L.length R.length - 1]
        · rw [e2, e3]
        · exact absurd ⟨hi, e2, e3⟩ hlast
end Go.Proofs.YtanghmogeiiooaaGreatDoor

/- What a failing device leaves of writes to the homes and a checkpoint: the old log, or none and all at home. -/
namespace Go.Proofs.YtanghmogeiiooaaGreatDoor
set_option linter.unusedVariables false
open Go.RowKit

theorem check_fine {n slot seq : Nat} (hn : 2 ≤ n) (hs : slot ≤ 510) (hq : seq < 18446744073709551616) : ∀ a ∈ checkD slot seq, a.fine n := by
  intro a ha
  unfold checkD at ha
  simp only [List.mem_cons, List.not_mem_nil, or_false] at ha
  rcases ha with rfl | rfl | rfl
  · trivial
  · exact ⟨by omega, by omega, blk_size (headR_ok hs hq).1⟩
  · trivial
/-- homes are written and a checkpoint is made, and the device fails somewhere there: the old log, each home as it was or as it was written; or the new one, with nothing in it, and all homes as they were written -/
theorem settle_left {S0 S' : St} {l p q used : Nat} {hm : Int → Bool} {ts : List Tx} {W : List (Int × ByteArray)} (hcl : Clean S0) (hl : 128 ≤ l ∧ l ≤ 512) (hn : l + 1 ≤ S0.n) (h : LogInv S0 l hm p q ts used)
    (hW : ∀ c ∈ W, 0 ≤ c.1 ∧ c.1 < (S0.n : Int) ∧ c.2.size = 128 ∧ ¬ (1 ≤ c.1 ∧ c.1 < 1 + (l : Int))) (hnd : (W.map Prod.fst).Nodup) (hne : blk (headR ((p + used) % (l - 1)) (q + ts.length)) ≠ blk (headR p q))
    (k : Nat) (hL : Left (runD S0 ((writesD W ++ checkD ((p + used) % (l - 1)) (q + ts.length)).take k)) S') :
    (LogInv S' l hm p q ts used ∧ ∀ y : Nat, y < S0.n → ¬ (1 ≤ y ∧ y < 1 + l) → rText S' (y : Int) = rText S0 (y : Int) ∨ ∃ d, ((y : Int), d) ∈ W ∧ rText S' (y : Int) = d) ∨
    (LogInv S' l hm ((p + used) % (l - 1)) (q + ts.length) [] 0 ∧ (∀ c ∈ W, rText S' c.1 = c.2) ∧ ∀ y : Nat, y < S0.n → ¬ (1 ≤ y ∧ y < 1 + l) → (y : Int) ∉ W.map Prod.fst → rText S' (y : Int) = rText S0 (y : Int)) := by
  have hs := h.seq
  have hmod : ∀ j, j % (l - 1) < l - 1 := fun j => Nat.mod_lt _ (by omega)
  have hfc := check_fine (n := S0.n) (slot := (p + used) % (l - 1)) (seq := q + ts.length) (by omega) (by have := hmod (p + used); omega) (by omega)
  have hfw : ∀ a ∈ writesD W, a.fine S0.n := writes_fine fun c hc => ⟨(hW c hc).1, (hW c hc).2.1, (hW c hc).2.2.1⟩
  generalize hH : blk (headR ((p + used) % (l - 1)) (q + ts.length)) = H at *
  have hck : checkD ((p + used) % (l - 1)) (q + ts.length) = [Deed.flush, Deed.write 1 H, Deed.flush] := by unfold checkD; rw [hH]
  rw [hck] at hL hfc
  have hwm : ∀ (y : Int) d, Deed.write y d ∈ writesD W ++ [Deed.flush, Deed.write 1 H, Deed.flush] → (y, d) ∈ W ∨ (y = 1 ∧ d = H) := fun y d hm => by
    rcases List.mem_append.1 hm with hm | hm
    · obtain ⟨c, hc, e⟩ := List.mem_map.1 hm
      injection e with e1 e2
      subst e1 e2; exact .inl hc
    · simp only [List.mem_cons, List.not_mem_nil, or_false] at hm
      rcases hm with hm | hm | hm
      · cases hm
      · injection hm with e1 e2; exact .inr ⟨e1, e2⟩
      · cases hm
  have hfine : ∀ a ∈ (writesD W ++ [Deed.flush, Deed.write 1 H, Deed.flush]).take k, a.fine S0.n := fun a ha => fine_append hfw hfc a (List.mem_of_mem_take ha)
  have hx : ∀ y : Nat, y < S0.n → rText S' (y : Int) = rText S0 (y : Int) ∨ ∃ d, (((y : Int), d) ∈ W ∨ ((y : Int) = 1 ∧ d = H)) ∧ rText S' (y : Int) = d := fun y hy => by
    rcases left_texts hcl hfine hL y hy with e | ⟨d, hd, e⟩
    · exact .inl e
    · exact .inr ⟨d, hwm _ _ (List.mem_of_mem_take hd), e⟩
  -- the log's slots are as they were
  have hslot : ∀ x : Nat, 2 ≤ x → x < l + 1 → rText S' (x : Int) = rText S0 (x : Int) := fun x h1 h2 => by
    rcases hx x (by omega) with e | ⟨d, hd | ⟨hd, -⟩, e⟩
    · exact e
    · have := hW _ hd; omega
    · omega
  by_cases h1 : rText S' 1 = rText S0 1
  · refine .inl ⟨h.same hl fun x a b => ?_, fun y hy hy2 => ?_⟩
    · by_cases e : x = 1
      · subst e; exact h1
      · exact hslot x (by omega) b
    · rcases hx y hy with e | ⟨d, hd | ⟨hd, -⟩, e⟩
      · exact .inl e
      · exact .inr ⟨d, hd, e⟩
      · omega
  · -- the header was written: all homes were durable then
    have hH1 : rText S' 1 = H := by
      rcases hx 1 (by omega) with e | ⟨d, hd | ⟨-, hd⟩, e⟩
      · exact absurd e h1
      · have := hW _ hd; omega
      · exact e.trans hd
    have hbig : (writesD W).length + 2 ≤ k := by
      refine Decidable.byContradiction fun hk => h1 ?_
      rcases left_texts hcl hfine hL 1 (by omega) with e | ⟨d, hd, -⟩
      · exact e
      · exfalso
        rw [List.take_append, List.mem_append] at hd
        rcases hd with hd | hd
        · obtain ⟨c, hc, e⟩ := List.mem_map.1 (List.mem_of_mem_take hd)
          injection e with e1 _
          have := hW c hc; omega
        · have : k - (writesD W).length = 0 ∨ k - (writesD W).length = 1 := by omega
          rcases this with e | e <;> rw [e] at hd
          · simp at hd
          · simp at hd
    have e : (writesD W ++ [Deed.flush, Deed.write 1 H, Deed.flush]).take k = (writesD W ++ [Deed.flush]) ++ [Deed.write 1 H, Deed.flush].take (k - (writesD W).length - 1) := by
      rw [List.take_append, List.take_of_length_le (by omega), List.append_assoc]
      congr 1
      obtain ⟨j, hj⟩ : ∃ j, k - (writesD W).length = j + 1 := ⟨k - (writesD W).length - 1, by omega⟩
      rw [hj, List.take_succ_cons, Nat.add_sub_cancel]; rfl
    rw [e, runD_append] at hL
    have hcl1 : Clean (runD S0 (writesD W ++ [Deed.flush])) := by rw [runD_append]; exact clean_flushed _
    have hn1 : (runD S0 (writesD W ++ [Deed.flush])).n = S0.n := runD_n _ _
    have ht1 : ∀ y : Int, rText (runD S0 (writesD W ++ [Deed.flush])) y = rText (runD S0 (writesD W)) y := fun y => by rw [runD_append]; exact rText_flush _ _
    have hy1 : ∀ y : Nat, y < S0.n → y ≠ 1 → rText S' (y : Int) = rText (runD S0 (writesD W)) (y : Int) := fun y hy hy1 => by
      rcases left_texts hcl1 (fun a ha => by rw [hn1]; exact hfc a (List.mem_cons_of_mem _ (List.mem_of_mem_take ha))) hL y (by rw [hn1]; exact hy) with e2 | ⟨d, hd, -⟩
      · rw [e2, ht1]
      · exfalso
        have hd := List.mem_of_mem_take hd
        simp only [List.mem_cons, List.not_mem_nil, or_false] at hd
        rcases hd with hd | hd
        · injection hd with e1 _; omega
        · cases hd
    have hin : ∀ c ∈ W, rText S' c.1 = c.2 := fun c hc => by
      obtain ⟨a1, a2, a3, a4⟩ := hW c hc
      obtain ⟨y, hy⟩ := Int.eq_ofNat_of_zero_le a1
      have := hy1 y (by omega) (by omega)
      rw [hy, this, ← hy]
      exact rText_writes_in (fun c hc => ⟨(hW c hc).1, (hW c hc).2.1⟩) hnd hc
    refine .inr ⟨?_, hin, fun y hy hy2 hyW => ?_⟩
    · have hi := h.check (S := S0) hl hn
      have heq : ∀ x : Nat, 1 ≤ x → x < l + 1 → rText S' (x : Int) = rText (runD S0 (checkD ((p + used) % (l - 1)) (q + ts.length))) (x : Int) := fun x a b => by
        rw [hck]
        show rText S' (x : Int) = rText (((S0.flushed).wrote 1 H).flushed) (x : Int)
        rw [rText_flush]
        by_cases e : x = 1
        · subst e
          rw [show ((1 : Nat) : Int) = 1 from rfl, hH1]
          exact (rtext_at (x := 1) (by show 1 < S0.n; omega)).symm
        · rw [hslot x (by omega) b]
          exact ((rtext_ne (x := 1) (by omega)).trans (rText_flush S0 (x : Int))).symm
      exact hi.same hl heq
    · rw [hy1 y hy (by omega)]
      exact rText_writes_out (fun c hc => (hW c hc).1) hyW
end Go.Proofs.YtanghmogeiiooaaGreatDoor

/- A device opened on what is left of another one: as the mathematics of what is left asks. -/
namespace Go.Proofs.YtanghmogeiiooaaGreatDoor
set_option linter.unusedVariables false
open Go.RowKit

theorem cat_len {f : Nat → ByteArray} {n : Nat} (h : ∀ i < n, (f i).size = 128) : (cat f n).size = n * 128 := cat_size h
theorem blk_cat {f : Nat → ByteArray} : ∀ {n i : Nat}, (∀ i < n, (f i).size = 128) → i < n → blkOf 128 (cat f n) i = f i
  | 0, i, _, hi => by omega
  | n + 1, i, h, hi => by
    have hz : (cat f n).size = n * 128 := cat_len fun j hj => h j (by omega)
    show (cat f n ++ f n).extract (i * 128) ((i + 1) * 128) = f i
    by_cases e : i < n
    · rw [← blk_cat (n := n) (fun j hj => h j (by omega)) e]
      unfold blkOf
      have h2 : (i + 1) * 128 ≤ n * 128 := Nat.mul_le_mul_right 128 (by omega)
      apply ByteArray.ext
      rw [ByteArray.data_extract, ByteArray.data_extract, ByteArray.data_append, Array.extract_append]
      have hz2 : (cat f n).data.size = n * 128 := hz
      rw [hz2, show (f n).data.extract (i * 128 - n * 128) ((i + 1) * 128 - n * 128) = #[] from by
        rw [show (i + 1) * 128 - n * 128 = 0 by omega]; simp, Array.append_empty]
    · obtain rfl : i = n := by omega
      have hf := h i (by omega)
      apply ByteArray.ext
      rw [ByteArray.data_extract, ByteArray.data_append, Array.extract_append]
      have hz2 : (cat f i).data.size = i * 128 := hz
      have hf2 : (f i).data.size = 128 := hf
      rw [hz2, show (cat f i).data.extract (i * 128) ((i + 1) * 128) = #[] from by
        apply Array.eq_empty_of_size_eq_zero; simp [Array.size_extract, hz2], Array.empty_append, Nat.sub_self, show (i + 1) * 128 - i * 128 = 128 by omega]
      rw [← hf2]; simp
theorem left_crash {S : St} (h : S.ok) (K : List Bool) : Left S (freshSt S.n (blkOf 128 (crashT S K))) := by
  refine ⟨rfl, fun x hx => ?_, fun x hx => rfl⟩
  have hz : ∀ i < S.n, (crashAt S.now S.was S.pend (keepOf K) i).size = 128 := fun i hi => crash_size (h.now i hi) (h.was i hi)
  show blkOf 128 (crashT S K) x = _ ∨ (_ ∧ blkOf 128 (crashT S K) x = _)
  unfold crashT
  rw [blk_cat hz hx]
  unfold crashAt
  split
  · rename_i e
    exact .inr ⟨(Bool.and_eq_true_iff.1 e).1, rfl⟩
  · exact .inl rfl
theorem left_kept {S : St} (h : S.ok) : Left S (freshSt S.n (blkOf 128 (cat S.was S.n))) :=
  ⟨rfl, fun x hx => .inl (blk_cat h.was hx), fun x hx => rfl⟩
end Go.Proofs.YtanghmogeiiooaaGreatDoor
