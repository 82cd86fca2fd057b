import Derived.Test.YtanghmogeiiooaaGreatDoorPa41
import Derived.Test.YtanghmogeiiooaaGreatDoorPa43
import Derived.Test.YtanghmogeiiooaaGreatDoorPa22
import Derived.Test.YtanghmogeiiooaaGreatDoorPa25
set_option linter.unusedVariables false
set_option linter.unusedSimpArgs false
set_option linter.constructorNameAsVariable false
/- Twelve blocks: what they have at home, and by the log. -/
namespace Go.Proofs.YtanghmogeiiooaaGreatDoor
set_option linter.unusedVariables false
open Go.RowKit

theorem puts_mem {b : Int} {d : ByteArray} : ∀ {l : List (Int × ByteArray)} (o : Option ByteArray), (l.map Prod.fst).Nodup → (b, d) ∈ l → l.foldl (putB b) o = some d
  | [], o, _, h => by cases h
  | c :: l, o, hn, h => by
    rw [List.map_cons, List.nodup_cons] at hn
    rw [List.foldl_cons]
    rcases List.mem_cons.1 h with e | h
    · subst e
      rw [puts_none _ hn.1]
      unfold putB; rw [if_pos rfl]
    · exact puts_mem _ hn.2 h
/-- what a transaction makes of one block's net effect -/
theorem net_put {ts : List Tx} {t : Tx} {b : Int} {d : ByteArray} (hn : (t.changes.map Prod.fst).Nodup) (hc : (b, d) ∈ t.changes) (hr : b ∉ t.revokes) : net (ts ++ [t]) b = some d := by
  rw [net_snoc, netT_at]
  unfold netB
  rw [puts_mem _ hn hc, dels_cases, if_neg hr]
theorem net_del {ts : List Tx} {t : Tx} {b : Int} (hr : b ∈ t.revokes) : net (ts ++ [t]) b = none := by
  rw [net_snoc, netT_at]
  unfold netB
  rw [dels_cases, if_pos hr]
theorem net_keep {ts : List Tx} {t : Tx} {b : Int} (hc : b ∉ t.changes.map Prod.fst) (hr : b ∉ t.revokes) : net (ts ++ [t]) b = net ts b := by
  rw [net_snoc, netT_at]
  unfold netB
  rw [puts_none _ hc, dels_cases, if_neg hr]

/-- a step's transaction: of the twelve blocks from da on, those changed, and of the others those revoked -/
def stepL (da : Nat) (chg : Nat → Bool) (nx : Nat → Nat) : List (Int × ByteArray) := ((List.range 12).filter chg).map fun k => (((da + k : Nat) : Int), rep (nx k))
def stepR (da : Nat) (chg rev : Nat → Bool) : List Int := ((List.range 12).filter fun k => !chg k && rev k).map fun k => ((da + k : Nat) : Int)
theorem stepL_fst (da : Nat) (chg : Nat → Bool) (nx : Nat → Nat) : (stepL da chg nx).map Prod.fst = ((List.range 12).filter chg).map fun k => ((da + k : Nat) : Int) := by
  unfold stepL; rw [List.map_map]; rfl
theorem step_up (da : Nat) (f : Nat → Bool) : (((List.range 12).filter f).map fun k => ((da + k : Nat) : Int)).Pairwise (· < ·) := by
  rw [List.pairwise_map]
  exact (List.pairwise_lt_range.filter f).imp fun h => by omega
theorem step_mem {da k : Nat} {f : Nat → Bool} (hk : k < 12) : ((da + k : Nat) : Int) ∈ ((List.range 12).filter f).map (fun k => ((da + k : Nat) : Int)) ↔ f k = true := by
  constructor
  · intro h
    obtain ⟨j, hj, e⟩ := List.mem_map.1 h
    have : j = k := by omega
    subst this; exact (List.mem_filter.1 hj).2
  · intro h
    exact List.mem_map.2 ⟨k, List.mem_filter.2 ⟨List.mem_range.2 hk, h⟩, rfl⟩
/-- what the twelve blocks have: at home, and by the log -/
structure Homes (S : St) (da : Nat) (ts : List Tx) (home want : Nat → Nat) : Prop where
  text : ∀ k, k < 12 → rText S ((da + k : Nat) : Int) = rep (home k)
  net : ∀ k, k < 12 → net ts ((da + k : Nat) : Int) = some (rep (want k)) ∨ (net ts ((da + k : Nat) : Int) = none ∧ want k = home k)
/-- what they have behind a step -/
def nextOf (chg rev : Nat → Bool) (nx home want : Nat → Nat) (k : Nat) : Nat := if chg k then nx k else if rev k then home k else want k
theorem net_step {da : Nat} {ts : List Tx} {home want nx : Nat → Nat} {chg rev : Nat → Bool} (h : ∀ k, k < 12 → net ts ((da + k : Nat) : Int) = some (rep (want k)) ∨ (net ts ((da + k : Nat) : Int) = none ∧ want k = home k)) :
    ∀ k, k < 12 → net (ts ++ [⟨stepL da chg nx, stepR da chg rev⟩]) ((da + k : Nat) : Int) = some (rep (nextOf chg rev nx home want k)) ∨ (net (ts ++ [⟨stepL da chg nx, stepR da chg rev⟩]) ((da + k : Nat) : Int) = none ∧ nextOf chg rev nx home want k = home k) := by
  intro k hk
  have hc : ((da + k : Nat) : Int) ∈ (stepL da chg nx).map Prod.fst ↔ chg k = true := by rw [stepL_fst]; exact step_mem hk
  have hr : ((da + k : Nat) : Int) ∈ stepR da chg rev ↔ (!chg k && rev k) = true := step_mem (f := fun k => !chg k && rev k) hk
  unfold nextOf
  by_cases h1 : chg k = true
  · rw [if_pos h1]
    refine .inl (net_put (t := ⟨stepL da chg nx, stepR da chg rev⟩) ?_ ?_ ?_)
    · show ((stepL da chg nx).map Prod.fst).Nodup
      rw [stepL_fst]; exact up_nodup (step_up da chg)
    · exact List.mem_map.2 ⟨k, List.mem_filter.2 ⟨List.mem_range.2 hk, h1⟩, rfl⟩
    · show ((da + k : Nat) : Int) ∉ stepR da chg rev
      rw [hr, h1]; simp
  · rw [if_neg h1]
    by_cases h2 : rev k = true
    · rw [if_pos h2]
      refine .inr ⟨net_del (t := ⟨stepL da chg nx, stepR da chg rev⟩) ?_, rfl⟩
      show ((da + k : Nat) : Int) ∈ stepR da chg rev
      rw [hr, h2]; simpa using h1
    · rw [if_neg h2, net_keep (t := ⟨stepL da chg nx, stepR da chg rev⟩) (by rw [hc]; exact h1) (by rw [hr]; simp [h2])]
      exact h k hk
/-- behind a replay the blocks have what they had by the log, if each that the log doesn't tell has it already -/
theorem replay_has {S : St} {l p q used b da : Nat} {ts : List Tx} {want : Nat → Nat} (hl : 128 ≤ l ∧ l ≤ 512) (hn : b ≤ S.n) (h : LogInv S l (hmB b 1 l) p q ts used) (hda : 1 < da) (hdb : da + 12 ≤ b)
    (hw : ∀ k, k < 12 → net ts ((da + k : Nat) : Int) = some (rep (want k)) ∨ (net ts ((da + k : Nat) : Int) = none ∧ rText S ((da + k : Nat) : Int) = rep (want k))) :
    ∀ k, k < 12 → rText (runD S (replD S b l (ts, used))) ((da + k : Nat) : Int) = rep (want k) := by
  intro k hk
  rw [replay_text hl hn h (da + k) (by omega) (by omega)]
  rcases hw k hk with e | ⟨e1, e2⟩
  · rw [e]; rfl
  · rw [e1]; exact e2
end Go.Proofs.YtanghmogeiiooaaGreatDoor

/- A device with a log and twelve blocks: a step, and what is left of a step. -/
namespace Go.Proofs.YtanghmogeiiooaaGreatDoor
set_option linter.unusedVariables false
open Go.RowKit

/-- all texts of the transactions are whole blocks -/
def Full128 (ts : List Tx) : Prop := ∀ t ∈ ts, ∀ c ∈ t.changes, c.2.size = 128
theorem full_nil : Full128 [] := fun t ht => by cases ht
theorem full_snoc {ts : List Tx} {t : Tx} (h : Full128 ts) (h2 : ∀ c ∈ t.changes, c.2.size = 128) : Full128 (ts ++ [t]) := fun x hx => by
  rcases List.mem_append.1 hx with hx | hx
  · exact h x hx
  · rw [List.mem_singleton.1 hx]; exact h2
theorem stepL_full (da : Nat) (chg : Nat → Bool) (nx : Nat → Nat) : ∀ c ∈ stepL da chg nx, c.2.size = 128 := fun c hc => by
  obtain ⟨k, _, rfl⟩ := List.mem_map.1 hc
  exact rep_size _
structure Wd (S : St) (l b da p q used : Nat) (ts : List Tx) (home want : Nat → Nat) : Prop where
  n : S.n = b
  log : LogInv S l (hmB b 1 l) p q ts used
  homes : Homes S da ts home want
  clean : Clean S
  sizes : Full128 ts
/-- what a layout gives -/
structure Fit12 (l b da : Nat) : Prop where
  hl : 128 ≤ l ∧ l ≤ 512
  hb : b ≤ 4096
  hda : l + 1 ≤ da
  htop : da + 14 ≤ b
theorem Fit12.room {l b da : Nat} (h : Fit12 l b da) : l + 1 ≤ b := by have := h.hda; have := h.htop; omega
/-- the data of a step: none, or the two blocks behind the twelve -/
def DataFits (da : Nat) (D : List (Int × ByteArray)) : Prop := ∀ c ∈ D, ((da + 12 : Nat) : Int) ≤ c.1
theorem home_out {l b da k : Nat} (hf : Fit12 l b da) (hk : k < 12) : ¬ (1 ≤ ((da + k : Nat) : Int) ∧ ((da + k : Nat) : Int) < 1 + (l : Int)) := by have := hf.hda; omega
theorem data_out {da k : Nat} {D : List (Int × ByteArray)} (h : DataFits da D) (hk : k < 12) : ((da + k : Nat) : Int) ∉ D.map Prod.fst := fun hx => by
  obtain ⟨c, hc, e⟩ := List.mem_map.1 hx
  have := h c hc; omega
theorem snoc_shape (a b c : List Deed) : a ++ (b ++ (.flush :: (c ++ [.flush]))) = (a ++ (b ++ (.flush :: c))) ++ [.flush] := by simp
theorem commit_clean (S : St) (slot l seq : Nat) (L : List (Int × ByteArray)) (R : List Int) (D : List (Int × ByteArray)) : Clean (runD S (commitD slot l seq L R D)) := by
  have e : ∃ A, commitD slot l seq L R D = A ++ [.flush] := ⟨_, by unfold commitD; exact snoc_shape _ _ _⟩
  obtain ⟨A, e⟩ := e
  rw [e, runD_append]; exact clean_flushed _
theorem Wd.commit {S : St} {l b da p q used : Nat} {ts : List Tx} {home want nx : Nat → Nat} {chg rev : Nat → Bool} {D : List (Int × ByteArray)} (hf : Fit12 l b da) (h : Wd S l b da p q used ts home want) (hD : DataFits da D)
    (hk : txnOk (hmB b 1 l) (stepL da chg nx) (stepR da chg rev) = true) (hk2 : chgsOk (hmB b 1 l) D = true) (hfit : used + sizeT (stepL da chg nx).length (stepR da chg rev).length ≤ l - 1) (hq : q + ts.length + 1 < 18446744073709551615) :
    Wd (runD S (commitD ((p + used) % (l - 1)) l (q + ts.length) (stepL da chg nx) (stepR da chg rev) D)) l b da p q (used + sizeT (stepL da chg nx).length (stepR da chg rev).length) (ts ++ [⟨stepL da chg nx, stepR da chg rev⟩]) home (nextOf chg rev nx home want) := by
  have hr := hf.room
  have hb4 := hf.hb
  have hn := h.n
  refine ⟨(runD_n _ _).trans hn, h.log.commit hf.hl (by omega) (by omega) (by omega) hk hk2 hfit hq, ⟨fun k hk3 => ?_, net_step h.homes.net⟩, commit_clean _ _ _ _ _ _ _, full_snoc h.sizes (stepL_full da chg nx)⟩
  rw [commit_out hf.hl hk2 _ (home_out hf hk3) (data_out hD hk3)]
  exact h.homes.text k hk3
/-- what settle writes -/
def homesW (da : Nat) (want : Nat → Nat) : List (Int × ByteArray) := (List.range 12).map fun k => (((da + k : Nat) : Int), rep (want k))
theorem homesW_mem {da : Nat} {want : Nat → Nat} {c : Int × ByteArray} (h : c ∈ homesW da want) : ∃ k, k < 12 ∧ c = (((da + k : Nat) : Int), rep (want k)) := by
  obtain ⟨k, hk, rfl⟩ := List.mem_map.1 h
  exact ⟨k, List.mem_range.1 hk, rfl⟩
theorem homesW_in {da k : Nat} (want : Nat → Nat) (hk : k < 12) : (((da + k : Nat) : Int), rep (want k)) ∈ homesW da want := List.mem_map.2 ⟨k, List.mem_range.2 hk, rfl⟩
theorem homesW_nodup (da : Nat) (want : Nat → Nat) : ((homesW da want).map Prod.fst).Nodup := by
  unfold homesW
  rw [List.map_map]
  show List.Pairwise _ _
  rw [List.pairwise_map]
  exact List.pairwise_lt_range.imp fun {a b} h => by
    show ((da + a : Nat) : Int) ≠ ((da + b : Nat) : Int); omega
theorem homesW_ok {l b da : Nat} (hf : Fit12 l b da) (want : Nat → Nat) : ∀ c ∈ homesW da want, 0 ≤ c.1 ∧ c.1 < (b : Int) ∧ c.2.size = 128 ∧ ¬ (1 ≤ c.1 ∧ c.1 < 1 + (l : Int)) := fun c hc => by
  obtain ⟨k, hk, rfl⟩ := homesW_mem hc
  have := hf.htop
  have := hf.hda
  exact ⟨by show 0 ≤ ((da + k : Nat) : Int); omega, by show ((da + k : Nat) : Int) < _; omega, rep_size _, home_out hf hk⟩
theorem Wd.settle {S : St} {l b da p q used : Nat} {ts : List Tx} {home want : Nat → Nat} (hf : Fit12 l b da) (h : Wd S l b da p q used ts home want) :
    Wd (runD S (writesD (homesW da want) ++ checkD ((p + used) % (l - 1)) (q + ts.length))) l b da ((p + used) % (l - 1)) (q + ts.length) 0 [] want want := by
  have hr := hf.room
  have hn := h.n
  have hok := homesW_ok hf want
  have hsame : LogInv (runD S (writesD (homesW da want))) l (hmB b 1 l) p q ts used := h.log.same hf.hl fun x h1 h2 => rText_writes_out (fun c hc => (hok c hc).1) fun hx => by
    obtain ⟨c, hc, e⟩ := List.mem_map.1 hx
    have := hok c hc; omega
  have hn2 : (runD S (writesD (homesW da want))).n = b := (runD_n _ _).trans hn
  rw [runD_append]
  refine ⟨(runD_n _ _).trans hn2, hsame.check hf.hl (by omega), ⟨fun k hk => ?_, fun k hk => .inr ⟨rfl, rfl⟩⟩, ?_, full_nil⟩
  · have := hf.hda
    have := hf.hl
    have e : rText (runD (runD S (writesD (homesW da want))) (checkD ((p + used) % (l - 1)) (q + ts.length))) ((da + k : Nat) : Int) = rText (runD S (writesD (homesW da want))) ((da + k : Nat) : Int) := by
      show rText ((((runD S (writesD (homesW da want))).flushed).wrote 1 (blk (headR ((p + used) % (l - 1)) (q + ts.length)))).flushed) _ = _
      rw [rText_flush]
      exact (rtext_ne (x := 1) (by omega)).trans (rText_flush _ _)
    rw [e]
    exact rText_writes_in (fun c hc => ⟨(hok c hc).1, by have := (hok c hc).2.1; omega⟩) (homesW_nodup da want) (homesW_in want hk)
  · show Clean ((((runD S (writesD (homesW da want))).flushed).wrote 1 _).flushed)
    exact clean_flushed _
/-- what is told by a log and by the homes: w -/
def Tells (S : St) (l b da N : Nat) (w : Nat → Nat) : Prop := ∃ p q used ts, LogInv S l (hmB b 1 l) p q ts used ∧ (q + ts.length ≤ N ∧ Full128 ts) ∧ ∀ k, k < 12 → net ts ((da + k : Nat) : Int) = some (rep (w k)) ∨ (net ts ((da + k : Nat) : Int) = none ∧ rText S ((da + k : Nat) : Int) = rep (w k))
theorem Wd.tells {S : St} {l b da p q used : Nat} {ts : List Tx} {home want : Nat → Nat} (h : Wd S l b da p q used ts home want) : Tells S l b da (q + ts.length) want :=
  ⟨p, q, used, ts, h.log, ⟨Nat.le_refl _, h.sizes⟩, fun k hk => (h.homes.net k hk).imp id fun e => ⟨e.1, by rw [h.homes.text k hk, e.2]⟩⟩
/-- P9.6: a commit that was cut off -/
theorem Wd.commit_left {S S' : St} {l b da p q used : Nat} {ts : List Tx} {home want nx : Nat → Nat} {chg rev : Nat → Bool} {D : List (Int × ByteArray)} (hf : Fit12 l b da) (h : Wd S l b da p q used ts home want) (hD : DataFits da D)
    (hk : txnOk (hmB b 1 l) (stepL da chg nx) (stepR da chg rev) = true) (hk2 : chgsOk (hmB b 1 l) D = true) (hfit : used + sizeT (stepL da chg nx).length (stepR da chg rev).length ≤ l - 1) (hq : q + ts.length + 1 < 18446744073709551615)
    (k : Nat) (hL : Left (runD S ((commitD ((p + used) % (l - 1)) l (q + ts.length) (stepL da chg nx) (stepR da chg rev) D).take k)) S') :
    Tells S' l b da (q + ts.length + 1) want ∨ Tells S' l b da (q + ts.length + 1) (nextOf chg rev nx home want) := by
  have hr := hf.room
  have hb4 := hf.hb
  have htop := hf.htop
  have hda := hf.hda
  have hn := h.n
  have hfine := commit_fine (n := S.n) (slot := (p + used) % (l - 1)) (seq := q + ts.length) hf.hl (by omega) (by omega) (by omega) (by omega) hk hk2
  have htx : ∀ j, j < 12 → rText S' ((da + j : Nat) : Int) = rep (home j) := fun j hj => by
    rcases left_texts h.clean (fun a ha => hfine a (List.mem_of_mem_take ha)) hL (da + j) (by omega) with e | ⟨d, hd, -⟩
    · rw [e]; exact h.homes.text j hj
    · exfalso
      have hm := List.mem_filter.2 ⟨List.mem_of_mem_take hd, (rfl : isW (Deed.write _ d) = true)⟩
      rw [filter_commit] at hm
      obtain ⟨c, hc, e⟩ := List.mem_map.1 hm
      injection e with e1 _
      rcases List.mem_append.1 hc with hc | hc
      · have := hD c hc; omega
      · rw [slots_home hf.hl] at hc
        obtain ⟨i, hi, rfl⟩ := List.mem_map.1 hc
        have := Nat.mod_lt ((p + used) % (l - 1) + i) (show 0 < l - 1 by have := hf.hl; omega)
        have e1 : ((1 + 1 + ((p + used) % (l - 1) + i) % (l - 1) : Nat) : Int) = ((da + j : Nat) : Int) := e1
        omega
  rcases Go.Proofs.YtanghmogeiiooaaGreatDoor.commit_left h.clean hf.hl (by omega) (by omega) (by omega) h.log hk hk2 hfit hq k hL with hl | hl
  · exact .inl ⟨_, _, _, _, hl, ⟨Nat.le_succ _, h.sizes⟩, fun j hj => (h.homes.net j hj).imp id fun e => ⟨e.1, by rw [htx j hj, e.2]⟩⟩
  · exact .inr ⟨_, _, _, _, hl, ⟨by rw [List.length_append, List.length_singleton]; omega, full_snoc h.sizes (stepL_full da chg nx)⟩, fun j hj => (net_step h.homes.net j hj).imp id fun e => ⟨e.1, by rw [htx j hj, e.2]⟩⟩
/-- homes written and a checkpoint, cut off -/
theorem Wd.settle_left {S S' : St} {l b da p q used : Nat} {ts : List Tx} {home want : Nat → Nat} (hf : Fit12 l b da) (h : Wd S l b da p q used ts home want) (hne : blk (headR ((p + used) % (l - 1)) (q + ts.length)) ≠ blk (headR p q))
    (k : Nat) (hL : Left (runD S ((writesD (homesW da want) ++ checkD ((p + used) % (l - 1)) (q + ts.length)).take k)) S') : Tells S' l b da (q + ts.length) want := by
  have hr := hf.room
  have htop := hf.htop
  have hda := hf.hda
  have hn := h.n
  have hok := homesW_ok hf want
  rcases Go.Proofs.YtanghmogeiiooaaGreatDoor.settle_left h.clean hf.hl (by omega) h.log (fun c hc => ⟨(hok c hc).1, by have := (hok c hc).2.1; omega, (hok c hc).2.2.1, (hok c hc).2.2.2⟩) (homesW_nodup da want) hne k hL with ⟨hl, ht⟩ | ⟨hl, ht, -⟩
  · refine ⟨_, _, _, _, hl, ⟨Nat.le_refl _, h.sizes⟩, fun j hj => ?_⟩
    rcases h.homes.net j hj with e | ⟨e1, e2⟩
    · exact .inl e
    · refine .inr ⟨e1, ?_⟩
      rcases ht (da + j) (by omega) (by omega) with e | ⟨d, hd, e⟩
      · rw [e, h.homes.text j hj, e2]
      · obtain ⟨i, hi, e3⟩ := homesW_mem hd
        have e4 : ((da + j : Nat) : Int) = ((da + i : Nat) : Int) := congrArg Prod.fst e3
        have : i = j := by omega
        subst this
        rw [e]; exact congrArg Prod.snd e3
  · exact ⟨_, _, _, _, hl, ⟨Nat.le_refl _, full_nil⟩, fun j hj => .inr ⟨rfl, ht _ (homesW_in want hj)⟩⟩
theorem stands_none {rd : Nat → ByteArray} {hm : Int → Bool} {p seq slots : Nat} : ∀ {r : List Tx} {l : List Tx}, Stands rd hm p seq slots 0 l 0 r → r = []
  | [], _, _ => rfl
  | t :: r, l, h => by
    obtain ⟨k, h1, h2⟩ := h
    have h3 := stand_bounds h1
    have h4 := stands_le _ _ _ _ h2
    omega
/-- writes that are cut off leave each home as it was or as it was written -/
theorem now_writes {W : List (Int × ByteArray)} {S : St} {x : Nat} (hW : ∀ c ∈ W, 0 ≤ c.1) : (runD S (writesD W)).was = S.was ∧ ((runD S (writesD W)).now x = S.now x ∨ ((x : Int), (runD S (writesD W)).now x) ∈ W) := by
  induction W generalizing S with
  | nil => exact ⟨rfl, .inl rfl⟩
  | cons c W ih =>
    obtain ⟨h1, h2⟩ := ih (S := S.wrote c.1.toNat c.2) fun c' hc => hW c' (List.mem_cons_of_mem _ hc)
    refine ⟨h1, ?_⟩
    rcases h2 with e | e
    · have e : (runD (S.wrote c.1.toNat c.2) (writesD W)).now x = upd S.now c.1.toNat c.2 x := e
      show (runD (S.wrote c.1.toNat c.2) (writesD W)).now x = _ ∨ ((x : Int), (runD (S.wrote c.1.toNat c.2) (writesD W)).now x) ∈ _
      rw [e]
      by_cases hx : x = c.1.toNat
      · have h0 := hW c (List.mem_cons_self ..)
        rw [hx, upd_same]
        refine .inr ?_
        rw [show ((c.1.toNat : Nat) : Int) = c.1 by omega]
        exact List.mem_cons_self ..
      · rw [upd_other _ hx]; exact .inl rfl
    · exact .inr (List.mem_cons_of_mem _ e)
/-- where the log is empty no checkpoint is made: what is written is there already -/
theorem Wd.settle0 {S : St} {l b da p q : Nat} {ts : List Tx} {home want : Nat → Nat} (hf : Fit12 l b da) (h : Wd S l b da p q 0 ts home want) :
    Wd (runD S (writesD (homesW da want))) l b da p q 0 ts want want := by
  have hr := hf.room
  have hn := h.n
  have hok := homesW_ok hf want
  have hts : ts = [] := stands_none h.log.stands
  have hwh : ∀ k, k < 12 → want k = home k := fun k hk => by
    rcases h.homes.net k hk with e | ⟨_, e⟩
    · rw [hts] at e; cases e
    · exact e
  refine ⟨(runD_n _ _).trans hn, h.log.same hf.hl fun x h1 h2 => rText_writes_out (fun c hc => (hok c hc).1) fun hx => ?_, ⟨fun k hk => ?_, fun k hk => .inr ⟨by rw [hts]; rfl, rfl⟩⟩, fun x hx => ?_, h.sizes⟩
  · obtain ⟨c, hc, e⟩ := List.mem_map.1 hx
    have := hok c hc; omega
  · exact rText_writes_in (fun c hc => ⟨(hok c hc).1, by have := (hok c hc).2.1; omega⟩) (homesW_nodup da want) (homesW_in want hk)
  · have hx : x < S.n := by rw [runD_n] at hx; exact hx
    obtain ⟨h1, h2⟩ := now_writes (W := homesW da want) (S := S) (x := x) fun c hc => (hok c hc).1
    rw [h1]
    rcases h2 with e | e
    · rw [e]; exact h.clean x hx
    · obtain ⟨k, hk, e2⟩ := homesW_mem e
      have e3 : (x : Int) = ((da + k : Nat) : Int) := congrArg Prod.fst e2
      have e4 := congrArg Prod.snd e2
      have ht := h.homes.text k hk
      rw [← e3, rText_in (by omega) (by omega), Int.toNat_natCast] at ht
      rw [← h.clean x hx, ht]
      rw [← hwh k hk]; exact e4
/-- what is told is there behind a replay -/
theorem Tells.replay {S : St} {l b da N : Nat} {w : Nat → Nat} (hf : Fit12 l b da) (hn : S.n = b) (h : Tells S l b da N w) : ∃ r, logOf S b 1 l = some r ∧ ∀ k, k < 12 → rText (runD S (replD S b l r)) ((da + k : Nat) : Int) = rep (w k) := by
  obtain ⟨p, q, used, ts, h1, -, h2⟩ := h
  have hda := hf.hda
  have hl := hf.hl
  have htop := hf.htop
  exact ⟨(ts, used), h1.is hf.hl, replay_has hf.hl (by omega) h1 (by omega) (by omega) h2⟩
end Go.Proofs.YtanghmogeiiooaaGreatDoor

/- A step on a device that may fail: its acts, and what is left of them; a replay of what is left. -/
namespace Go.Proofs.YtanghmogeiiooaaGreatDoor
set_option linter.unusedVariables false
open Go.RowKit

/-- all is done, or as much as may be -/
theorem deeds_two {S : St} {L : List Deed} (hf : ∀ a ∈ L, a.fine S.n) : deeds S L = (0, runD S L) ∨ ∃ k, k < L.length ∧ deeds S L = (61, runD S (L.take k)) := by
  by_cases h : S.left < 0 ∨ (L.length : Int) ≤ S.left
  · exact .inl (deeds_live hf h)
  · exact .inr ⟨S.left.toNat, by omega, deeds_dead hf (by omega) (by omega)⟩

/-! ### a step's lists may be -/
theorem rise_of {hm : Int → Bool} {L : List Int} (h1 : L.Pairwise (· < ·)) (h2 : ∀ x ∈ L, hm x = true) : riseTo hm L L.length := fun j hj => by
  have e : ∀ i (hi : i < L.length), hat L i = L[i] := fun i hi => by unfold hat; rw [List.getElem?_eq_getElem hi]; rfl
  refine ⟨by rw [e j hj]; exact h2 _ (List.getElem_mem hj), fun h0 => ?_⟩
  rw [e j hj, e (j - 1) (by omega)]
  exact List.pairwise_iff_getElem.1 h1 _ _ (by omega) hj (by omega)
theorem hm12 {l b da k : Nat} (hf : Fit12 l b da) (hk : k < 14) : hmB (b : Nat) 1 (l : Nat) ((da + k : Nat) : Int) = true := by
  have := hf.htop
  have := hf.hda
  unfold hmB; exact decide_eq_true (by omega)
theorem stepL_ok {l b da : Nat} (hf : Fit12 l b da) (chg : Nat → Bool) (nx : Nat → Nat) : chgsOk (hmB (b : Nat) 1 (l : Nat)) (stepL da chg nx) = true := by
  unfold chgsOk
  rw [Bool.and_eq_true]
  refine ⟨List.all_eq_true.2 fun c hc => ?_, decide_eq_true (rise_of ?_ fun x hx => ?_)⟩
  · obtain ⟨k, _, rfl⟩ := List.mem_map.1 hc
    exact decide_eq_true (rep_size _)
  · rw [stepL_fst]; exact step_up da chg
  · rw [stepL_fst] at hx
    obtain ⟨k, hk, rfl⟩ := List.mem_map.1 hx
    exact hm12 hf (by have := List.mem_range.1 (List.mem_filter.1 hk).1; omega)
theorem step_ok {l b da : Nat} (hf : Fit12 l b da) (chg rev : Nat → Bool) (nx : Nat → Nat) : txnOk (hmB (b : Nat) 1 (l : Nat)) (stepL da chg nx) (stepR da chg rev) = true := by
  unfold txnOk
  rw [stepL_ok hf, Bool.true_and, Bool.and_eq_true]
  refine ⟨decide_eq_true (rise_of (step_up da _) fun x hx => ?_), List.all_eq_true.2 fun x hx => ?_⟩
  · obtain ⟨k, hk, rfl⟩ := List.mem_map.1 hx
    exact hm12 hf (by have := List.mem_range.1 (List.mem_filter.1 hk).1; omega)
  · rw [stepL_fst] at hx
    obtain ⟨k, hk, rfl⟩ := List.mem_map.1 hx
    obtain ⟨hk1, hk2⟩ := List.mem_filter.1 hk
    have hk1 := List.mem_range.1 hk1
    rw [Bool.not_eq_true', ← Bool.not_eq_true, List.contains_iff_mem]
    intro hm
    have := (step_mem (f := fun k => !chg k && rev k) hk1).1 hm
    rw [hk2] at this; simp at this
/-- the two blocks of data of a step -/
def stepD (da : Nat) (data : Bool) (f : Nat) : List (Int × ByteArray) := if data then [(((da + 12 : Nat) : Int), rep f), (((da + 13 : Nat) : Int), rep ((f + 1) % 256))] else []
theorem stepD_ok {l b da : Nat} (hf : Fit12 l b da) (data : Bool) (f : Nat) : chgsOk (hmB (b : Nat) 1 (l : Nat)) (stepD da data f) = true := by
  unfold stepD
  cases data
  · rfl
  · unfold chgsOk
    rw [if_pos rfl, Bool.and_eq_true]
    refine ⟨by simp [rep_size], decide_eq_true (rise_of ?_ fun x hx => ?_)⟩
    · simp
    · simp at hx
      rcases hx with rfl | rfl
      · exact hm12 hf (k := 12) (by omega)
      · exact hm12 hf (k := 13) (by omega)
theorem stepD_fits (da : Nat) (data : Bool) (f : Nat) : DataFits da (stepD da data f) := by
  unfold stepD
  intro c hc
  cases data
  · simp at hc
  · simp at hc
    rcases hc with rfl | rfl
    · exact Int.le_refl _
    · show ((da + 12 : Nat) : Int) ≤ ((da + 13 : Nat) : Int); omega
theorem stepL_len (da : Nat) (chg : Nat → Bool) (nx : Nat → Nat) : (stepL da chg nx).length ≤ 12 := by
  unfold stepL; rw [List.length_map]
  exact Nat.le_trans (List.length_filter_le _ _) (by simp)
theorem stepR_len (da : Nat) (chg rev : Nat → Bool) : (stepR da chg rev).length ≤ 12 := by
  unfold stepR; rw [List.length_map]
  exact Nat.le_trans (List.length_filter_le _ _) (by simp)
theorem step_size (da : Nat) (chg rev : Nat → Bool) (nx : Nat → Nat) : sizeT (stepL da chg nx).length (stepR da chg rev).length ≤ 15 := by
  have h1 := stepL_len da chg nx
  have h2 := stepR_len da chg rev
  unfold sizeT; omega

/-! ### how a commit, writes to the homes, a checkpoint end -/
abbrev cmtD (l p q used da : Nat) (ts : List Tx) (chg rev : Nat → Bool) (nx : Nat → Nat) (data : Bool) (f : Nat) : List Deed :=
  commitD ((p + used) % (l - 1)) l (q + ts.length) (stepL da chg nx) (stepR da chg rev) (stepD da data f)
theorem Wd.commit_ends {S : St} {l b da p q used : Nat} {ts : List Tx} {home want nx : Nat → Nat} {chg rev : Nat → Bool} {data : Bool} {f : Nat} (hf : Fit12 l b da) (h : Wd S l b da p q used ts home want)
    (hfit : used + sizeT (stepL da chg nx).length (stepR da chg rev).length ≤ l - 1) (hq : q + ts.length + 1 < 18446744073709551615) :
    ((deeds S (cmtD l p q used da ts chg rev nx data f)).1 = 0 ∧ Wd (deeds S (cmtD l p q used da ts chg rev nx data f)).2 l b da p q (used + sizeT (stepL da chg nx).length (stepR da chg rev).length) (ts ++ [⟨stepL da chg nx, stepR da chg rev⟩]) home (nextOf chg rev nx home want)) ∨
    ((deeds S (cmtD l p q used da ts chg rev nx data f)).1 = 61 ∧ ∀ S', Left (deeds S (cmtD l p q used da ts chg rev nx data f)).2 S' → Tells S' l b da (q + ts.length + 1) want ∨ Tells S' l b da (q + ts.length + 1) (nextOf chg rev nx home want)) := by
  have hr := hf.room
  have hb4 := hf.hb
  have hn := h.n
  have hk := step_ok hf chg rev nx
  have hk2 := stepD_ok hf data f
  have hfine := commit_fine (n := S.n) (slot := (p + used) % (l - 1)) (seq := q + ts.length) hf.hl (by omega) (by omega) (by omega) (by omega) hk hk2
  rcases deeds_two hfine with e | ⟨k, _, e⟩
  · rw [e]; exact .inl ⟨rfl, h.commit hf (stepD_fits _ _ _) hk hk2 hfit hq⟩
  · rw [e]; exact .inr ⟨rfl, fun S' hL => h.commit_left hf (stepD_fits _ _ _) hk hk2 hfit hq k hL⟩
theorem homesW_length (da : Nat) (want : Nat → Nat) : (homesW da want).length = 12 := by unfold homesW; simp
theorem homesW_take (da : Nat) (want : Nat → Nat) {j : Nat} (hj : j < 12) : (homesW da want).take (j + 1) = (homesW da want).take j ++ [(((da + j : Nat) : Int), rep (want j))] := by
  rw [List.take_succ_eq_append_getElem (by rw [homesW_length]; exact hj)]
  unfold homesW
  simp
/-- the device behind the first j homes' writes -/
def wroteS (S : St) (da : Nat) (want : Nat → Nat) (j : Nat) : St := runD S (writesD ((homesW da want).take j))
theorem wroteS_zero (S : St) (da : Nat) (want : Nat → Nat) : wroteS S da want 0 = S := rfl
theorem wroteS_succ (S : St) (da : Nat) (want : Nat → Nat) {j : Nat} (hj : j < 12) : wroteS S da want (j + 1) = (wroteS S da want j).wrote (da + j) (rep (want j)) := by
  unfold wroteS
  rw [homesW_take da want hj, show writesD ((homesW da want).take j ++ [(((da + j : Nat) : Int), rep (want j))]) = writesD ((homesW da want).take j) ++ writesD [(((da + j : Nat) : Int), rep (want j))] from List.map_append, runD_append]
  show (runD S _).wrote (((da + j : Nat) : Int)).toNat _ = _
  rw [Int.toNat_natCast]
theorem wroteS_all (S : St) (da : Nat) (want : Nat → Nat) : wroteS S da want 12 = runD S (writesD (homesW da want)) := by
  unfold wroteS; rw [List.take_of_length_le (by rw [homesW_length]; exact Nat.le_refl _)]
theorem wroteS_n (S : St) (da : Nat) (want : Nat → Nat) (j : Nat) : (wroteS S da want j).n = S.n := runD_n _ _
theorem wroteS_acts (S : St) (da : Nat) (want : Nat → Nat) {j : Nat} (hj : j ≤ 12) : (wroteS S da want j).acts = S.acts + j := by
  unfold wroteS
  rw [runD_acts, List.length_map, List.length_take, homesW_length, Nat.min_eq_left hj]
/-- writes to the homes, cut off -/
theorem Wd.writes_left {S S' : St} {l b da p q used : Nat} {ts : List Tx} {home want : Nat → Nat} (hf : Fit12 l b da) (h : Wd S l b da p q used ts home want) (j : Nat) (hL : Left (wroteS S da want j) S') : Tells S' l b da (q + ts.length) want := by
  have hr := hf.room
  have htop := hf.htop
  have hda := hf.hda
  have hn := h.n
  have hok := homesW_ok hf want
  have hfine : ∀ a ∈ writesD ((homesW da want).take j), a.fine S.n := writes_fine fun c hc => by
    have := hok c (List.mem_of_mem_take hc)
    exact ⟨this.1, by have := this.2.1; omega, this.2.2.1⟩
  have htx := fun y hy => left_texts h.clean hfine hL y hy
  have hw : ∀ (y : Int) d, Deed.write y d ∈ writesD ((homesW da want).take j) → ∃ k, k < 12 ∧ y = ((da + k : Nat) : Int) ∧ d = rep (want k) := fun y d hm => by
    obtain ⟨c, hc, e⟩ := List.mem_map.1 hm
    obtain ⟨k, hk, rfl⟩ := homesW_mem (List.mem_of_mem_take hc)
    injection e with e1 e2
    exact ⟨k, hk, e1.symm, e2.symm⟩
  refine ⟨p, q, used, ts, h.log.same hf.hl fun x h1 h2 => ?_, ⟨Nat.le_refl _, h.sizes⟩, fun k hk => (h.homes.net k hk).imp id fun e => ⟨e.1, ?_⟩⟩
  · rcases htx x (by omega) with e | ⟨d, hd, -⟩
    · exact e
    · obtain ⟨k, hk, e1, -⟩ := hw _ _ hd
      omega
  · rcases htx (da + k) (by omega) with e1 | ⟨d, hd, e1⟩
    · rw [e1, h.homes.text k hk, e.2]
    · obtain ⟨i, hi, e2, e3⟩ := hw _ _ hd
      have : i = k := by omega
      subst this
      rw [e1, e3]
theorem head_ne {p q p' q' : Nat} (hp : p ≤ 510) (hp' : p' ≤ 510) (hq : q < 18446744073709551616) (hq' : q' < 18446744073709551616) (h : q ≠ q') : blk (headR p q) ≠ blk (headR p' q') := fun e => by
  obtain ⟨a, b⟩ := headR_ok hp hq
  obtain ⟨a', b'⟩ := headR_ok hp' hq'
  have h1 := (isBlk_of a b).2
  have h2 := (isBlk_of a' b').2
  rw [e, h2] at h1
  exact h (congrArg Rec.seq h1).symm
theorem Wd.ne_nil {S : St} {l b da p q used : Nat} {ts : List Tx} {home want : Nat → Nat} (h : Wd S l b da p q used ts home want) (hu : used ≠ 0) : ts ≠ [] := fun e => by
  have := h.log.stands
  rw [e] at this
  exact hu this
theorem Wd.check_ends {S : St} {l b da p q used : Nat} {ts : List Tx} {home want : Nat → Nat} (hf : Fit12 l b da) (h : Wd S l b da p q used ts home want) (hu : used ≠ 0) :
    ((deeds (wroteS S da want 12) (checkD ((p + used) % (l - 1)) (q + ts.length))).1 = 0 ∧ Wd (deeds (wroteS S da want 12) (checkD ((p + used) % (l - 1)) (q + ts.length))).2 l b da ((p + used) % (l - 1)) (q + ts.length) 0 [] want want) ∨
    ((deeds (wroteS S da want 12) (checkD ((p + used) % (l - 1)) (q + ts.length))).1 = 61 ∧ ∀ S', Left (deeds (wroteS S da want 12) (checkD ((p + used) % (l - 1)) (q + ts.length))).2 S' → Tells S' l b da (q + ts.length) want) := by
  have hr := hf.room
  have hn := h.n
  have hs := h.log.seq
  have hp := h.log.pos
  have hl := hf.hl
  have hmod : (p + used) % (l - 1) < l - 1 := Nat.mod_lt _ (by omega)
  have hts := List.length_pos_iff.2 (h.ne_nil hu)
  have hne : blk (headR ((p + used) % (l - 1)) (q + ts.length)) ≠ blk (headR p q) := head_ne (by omega) (by omega) (by omega) (by omega) (by omega)
  have hfine := check_fine (n := (wroteS S da want 12).n) (slot := (p + used) % (l - 1)) (seq := q + ts.length) (by rw [wroteS_n]; omega) (by omega) (by omega)
  rcases deeds_two hfine with e | ⟨k, _, e⟩
  · rw [e]
    refine .inl ⟨rfl, ?_⟩
    have := h.settle hf
    rwa [runD_append, ← wroteS_all] at this
  · rw [e]
    refine .inr ⟨rfl, fun S' hL => h.settle_left hf hne (12 + k) ?_⟩
    have e2 : (writesD (homesW da want) ++ checkD ((p + used) % (l - 1)) (q + ts.length)).take (12 + k) = writesD (homesW da want) ++ (checkD ((p + used) % (l - 1)) (q + ts.length)).take k := by
      have hlen : (writesD (homesW da want)).length = 12 := by rw [List.length_map, homesW_length]
      rw [List.take_append, hlen, List.take_of_length_le (by omega), Nat.add_sub_cancel_left]
    rw [e2, runD_append, ← wroteS_all]; exact hL

/-! ### behind a crash -/
theorem replay_clean {S : St} {l p q used b : Nat} {hm : Int → Bool} {ts : List Tx} (hl : 128 ≤ l ∧ l ≤ 512) (h : LogInv S l hm p q ts used) : Clean (runD S (replD S b l (ts, used))) := by
  rw [replD_is hl h, runD_append]
  exact clean_flushed _
theorem net_from {ts : List Tx} {x : Int} {d : ByteArray} : net ts x = some d → ∃ t ∈ ts, (x, d) ∈ t.changes := by
  have puts : ∀ (l : List (Int × ByteArray)) (o : Option ByteArray), l.foldl (putB x) o = some d → (x, d) ∈ l ∨ o = some d := by
    intro l
    induction l with
    | nil => intro o h; exact .inr h
    | cons c l ih =>
      intro o h
      rw [List.foldl_cons] at h
      rcases ih _ h with h | h
      · exact .inl (List.mem_cons_of_mem _ h)
      · unfold putB at h
        split at h
        · rename_i e
          injection h with h
          refine .inl ?_
          rw [← e, ← h]; exact List.mem_cons_self ..
        · exact .inr h
  have dels : ∀ (l : List Int) (o : Option ByteArray), l.foldl (delB x) o = some d → o = some d := by
    intro l
    induction l with
    | nil => intro o h; exact h
    | cons c l ih =>
      intro o h
      rw [List.foldl_cons] at h
      have := ih _ h
      unfold delB at this
      split at this
      · cases this
      · exact this
  have go : ∀ (l : List Tx) (m : Int → Option ByteArray), (l.foldl netT m) x = some d → (∃ t ∈ l, (x, d) ∈ t.changes) ∨ m x = some d := by
    intro l
    induction l with
    | nil => intro m h; exact .inr h
    | cons t l ih =>
      intro m h
      rw [List.foldl_cons] at h
      rcases ih _ h with ⟨t', ht', h'⟩ | h
      · exact .inl ⟨t', List.mem_cons_of_mem _ ht', h'⟩
      · rw [netT_at] at h
        unfold netB at h
        rcases puts _ _ (dels _ _ h) with h | h
        · exact .inl ⟨t, List.mem_cons_self .., h⟩
        · exact .inr h
  intro h
  rcases go ts _ h with h | h
  · exact h
  · cases h
theorem replay_fine {S : St} {l p q used b : Nat} {ts : List Tx} (hl : 128 ≤ l ∧ l ≤ 512) (hn : S.n = b) (hb : l + 1 ≤ b) (h : LogInv S l (hmB b 1 l) p q ts used) (hz : Full128 ts) : ∀ a ∈ replD S b l (ts, used), a.fine S.n := by
  rw [replD_is hl h]
  have hs := h.seq
  have hmod : (p + used) % (l - 1) < l - 1 := Nat.mod_lt _ (by omega)
  refine fine_append (writes_fine fun c hc => ?_) (check_fine (by omega) (by omega) (by omega))
  obtain ⟨h1, h2, -, h4⟩ := net_home hl h c hc
  obtain ⟨t, ht, hm⟩ := net_from h4
  exact ⟨h1, by omega, hz t ht _ hm⟩
/-- what a replay of what is told makes -/
theorem Tells.back {S : St} {l b da N : Nat} {w : Nat → Nat} (hf : Fit12 l b da) (hn : S.n = b) (hc : Clean S) (hN : N < 18446744073709551615) (h : Tells S l b da N w) :
    ∃ r, logOf S b 1 l = some r ∧ ((r.1 = [] ∧ ∃ p q, q ≤ N ∧ Wd S l b da p q 0 [] w w) ∨ (r.1 ≠ [] ∧ (∀ a ∈ replD S b l r, a.fine S.n) ∧ ∃ p q, q ≤ N ∧ Wd (runD S (replD S b l r)) l b da p q 0 [] w w)) := by
  obtain ⟨p, q, used, ts, h1, ⟨hq, hz⟩, h2⟩ := h
  have hda := hf.hda
  have hl := hf.hl
  have htop := hf.htop
  have hr := hf.room
  refine ⟨(ts, used), h1.is hl, ?_⟩
  by_cases he : ts = []
  · refine .inl ⟨he, p, q, by omega, ?_⟩
    subst he
    have hu : used = 0 := h1.stands
    subst hu
    refine ⟨hn, h1, ⟨fun k hk => ?_, fun k hk => .inr ⟨rfl, rfl⟩⟩, hc, full_nil⟩
    rcases h2 k hk with e | e
    · cases e
    · exact e.2
  · refine .inr ⟨he, replay_fine hl hn (by omega) h1 hz, (p + used) % (l - 1), q + ts.length, hq, ?_⟩
    exact ⟨(runD_n _ _).trans hn, h1.replay hl (by omega), ⟨replay_has hl (by omega) h1 (by omega) (by omega) h2, fun k hk => .inr ⟨rfl, rfl⟩⟩, replay_clean hl h1, full_nil⟩
/-- a device that was opened of what is left -/
theorem fresh_clean (n : Nat) (f : Nat → ByteArray) : Clean (freshSt n f) := fun x _ => rfl
end Go.Proofs.YtanghmogeiiooaaGreatDoor

/- The log's beginning, as the law makes it; Open, by what stands in the log. -/
namespace Go.Proofs.YtanghmogeiiooaaGreatDoor
set_option linter.unusedVariables false
set_option linter.unusedSimpArgs false
open Go.RowKit

theorem Lay.fit {x y z b l i m t da : Nat} (h : Lay x y z b l i m t da) : Fit12 l b da := by
  obtain ⟨rfl, rfl, rfl, rfl, rfl, rfl⟩ := h
  exact ⟨by omega, by omega, by omega, by omega⟩
theorem fmt_memG {l : Nat} (hl : 128 ≤ l ∧ l ≤ 512) : ∀ c ∈ slotsOf 1 (l : Int) 0 (List.replicate (l - 1) zeros) (l - 1), 2 ≤ c.1 ∧ c.1 < (l : Int) + 1 ∧ c.2 = zeros := by
  rw [slots_home hl]
  intro c hc
  obtain ⟨i, hi, rfl⟩ := List.mem_map.1 hc
  have hi := List.mem_range.1 hi
  have := Nat.mod_lt (0 + i) (show 0 < l - 1 by omega)
  refine ⟨?_, ?_, ?_⟩
  · show (2 : Int) ≤ ((1 + 1 + (0 + i) % (l - 1) : Nat) : Int); omega
  · show ((1 + 1 + (0 + i) % (l - 1) : Nat) : Int) < (l : Int) + 1; omega
  · show ((List.replicate (l - 1) zeros)[i]?).getD _ = zeros
    rw [List.getElem?_replicate, if_pos hi]; rfl
theorem fmt_fineG {l n : Nat} (hl : 128 ≤ l ∧ l ≤ 512) (hn : l + 1 ≤ n) : ∀ a ∈ fmtD l, a.fine n := by
  unfold fmtD
  refine fine_append (writes_fine fun c hc => ?_) fun a ha => ?_
  · obtain ⟨h1, h2, h4⟩ := fmt_memG hl c hc
    exact ⟨by omega, by omega, by rw [h4]; exact zeros_size⟩
  · simp only [List.mem_cons, List.not_mem_nil, or_false] at ha
    rcases ha with rfl | rfl | rfl
    · trivial
    · exact ⟨by omega, by omega, blk_size (headR_ok (slot := 0) (seq := 1) (by omega) (by omega)).1⟩
    · trivial
def beganS (b l : Nat) : St := runD (freshSt b zeroB) (fmtD l)
theorem began_deeds {b l : Nat} (hl : 128 ≤ l ∧ l ≤ 512) (hb : l + 1 ≤ b) : deeds (freshSt b zeroB) (fmtD l) = (0, beganS b l) := deeds_live (fmt_fineG hl hb) (.inl (show (-1 : Int) < 0 by decide))
theorem began_acts {b l : Nat} : (beganS b l).acts = l - 1 + 3 := by unfold beganS; rw [runD_acts, fmtD_length]; exact Nat.zero_add _
theorem began_left {b l : Nat} : (beganS b l).left = -1 := runD_left_all (show (-1 : Int) < 0 by decide) _
theorem zeros_rep : zeros = rep 0 := rfl
theorem began_text {b l : Nat} (hl : 128 ≤ l ∧ l ≤ 512) {y : Nat} (h1 : l + 1 ≤ y) (h2 : y < b) : rText (beganS b l) (y : Int) = rep 0 := by
  unfold beganS
  have e : (fmtD l).filter isW = writesD (slotsOf 1 (l : Int) 0 (List.replicate (l - 1) zeros) (l - 1) ++ [(1, blk (headR 0 1))]) := by
    unfold fmtD
    rw [List.filter_append, filter_writes, show writesD (slotsOf 1 (l : Int) 0 (List.replicate (l - 1) zeros) (l - 1) ++ [(1, blk (headR 0 1))]) = writesD (slotsOf 1 (l : Int) 0 (List.replicate (l - 1) zeros) (l - 1)) ++ writesD [(1, blk (headR 0 1))] from List.map_append]; rfl
  rw [rText_run, e, rText_writes_out (fun c hc => ?_) fun hx => ?_]
  · rw [rText_in (by omega) (by show (y : Int) < ((b : Nat) : Int); omega)]
    exact zeros_rep
  · rcases List.mem_append.1 hc with hc | hc
    · have := fmt_memG hl c hc; omega
    · rw [List.mem_singleton.1 hc]; exact (by decide : (0 : Int) ≤ 1)
  · obtain ⟨c, hc, e⟩ := List.mem_map.1 hx
    rcases List.mem_append.1 hc with hc | hc
    · have := fmt_memG hl c hc; omega
    · rw [List.mem_singleton.1 hc] at e
      have e : (1 : Int) = (y : Int) := e
      omega
theorem began_wd {l b da : Nat} (hf : Fit12 l b da) : Wd (beganS b l) l b da 0 1 0 [] (fun _ => 0) (fun _ => 0) := by
  have hr := hf.room
  have hda := hf.hda
  have htop := hf.htop
  refine ⟨runD_n _ _, LogInv.format _ hf.hl hr, ⟨fun k hk => began_text hf.hl (by omega) (by omega), fun k hk => .inr ⟨rfl, rfl⟩⟩, ?_, full_nil⟩
  unfold beganS fmtD
  rw [runD_append]
  exact clean_flushed _
/-- Open, by what stands in the log -/
theorem open_inv (d lo hi : Nat) (b l i m t : Nat) (hok : okN b l i m t) {S : St} (hn : S.n = b) {p q used : Nat} {ts : List Tx} (hI : LogInv S l (hmB (b : Nat) 1 (l : Nat)) p q ts used) (w : World) (h : DevAt d lo hi S w) (ht : Tab w) :
    Calls Tryz.prog 16 #[.pointer (some ⟨d, 0, none⟩), lay b l i m t] w fun e w' => ∃ g, e = .returned (.tuple #[.pointer (some ⟨g, 0, none⟩), .int .i64 0]) ∧ w.heap.size ≤ g ∧
      LogAt g d b l i 1 (1 + l) m (1 + l + m) t (1 + l + m + t) (((p + used) % (l - 1) : Nat) : Int) ((l - 1 - used : Nat) : Int) (q + ts.length) 0 w' ∧ Below w.heap.size w w' := by
  have hl : 128 ≤ l ∧ l ≤ 512 := ⟨hok.2.2.1, hok.2.2.2.1⟩
  have h1 := jopen_ok d lo hi b l i m t hok hn w h ht (ts, used) (hI.is hl)
  obtain ⟨-, h2⟩ := hI.head_ok hl
  have hs := hI.seq
  rw [h2] at h1
  have e1 : (headR p q).pos.toNat = p := by show ((p : Nat) : Int).toNat = p; exact Int.toNat_natCast p
  have e2 : (headR p q).seq = q := rfl
  have e3 : ((l : Int) - 1).toNat = l - 1 := by omega
  rw [e1, e2, e3, Nat.mod_eq_of_lt (show q + (ts, used).1.length < 18446744073709551616 by show q + ts.length < _; omega)] at h1
  exact h1
end Go.Proofs.YtanghmogeiiooaaGreatDoor
