import Derived.Test.YtanghmogeiiooaaGreatDoorPa07
import Derived.Test.YtanghmogeiiooaaGreatDoorPa01
import Derived.Deep.Quiet
import Derived.Deep.QuietTactic
import Derived.BigQuiet
import Derived.Test.YtanghmogeiiooaaGreatDoorPa02
import Derived.Test.YtanghmogeiiooaaGreatDoorPa03
set_option linter.unusedVariables false
set_option linter.unusedSimpArgs false
set_option linter.constructorNameAsVariable false
/- The net effect of transactions; a log's transactions one behind the other: no program is named here. -/
namespace Go.Proofs.YtanghmogeiiooaaGreatDoor
set_option linter.unusedVariables false

/-! ### the net effect -/
def putC (m : Int → Option ByteArray) (c : Int × ByteArray) : Int → Option ByteArray := fun b => if b = c.1 then some c.2 else m b
def delC (m : Int → Option ByteArray) (r : Int) : Int → Option ByteArray := fun b => if b = r then none else m b
def netT (m : Int → Option ByteArray) (t : Tx) : Int → Option ByteArray := t.revokes.foldl delC (t.changes.foldl putC m)
def net (l : List Tx) : Int → Option ByteArray := l.foldl netT fun _ => none
/-- the same at one block -/
def putB (b : Int) (o : Option ByteArray) (c : Int × ByteArray) : Option ByteArray := if c.1 = b then some c.2 else o
def delB (b : Int) (o : Option ByteArray) (r : Int) : Option ByteArray := if r = b then none else o
def netB (b : Int) (o : Option ByteArray) (t : Tx) : Option ByteArray := t.revokes.foldl (delB b) (t.changes.foldl (putB b) o)
theorem puts_at (b : Int) : ∀ (l : List (Int × ByteArray)) (m : Int → Option ByteArray), l.foldl putC m b = l.foldl (putB b) (m b)
  | [], m => rfl
  | c :: l, m => by
    rw [List.foldl_cons, List.foldl_cons, puts_at b l]
    congr 1
    unfold putC putB
    by_cases h : b = c.1
    · rw [if_pos h, if_pos h.symm]
    · rw [if_neg h, if_neg (fun e => h e.symm)]
theorem dels_at (b : Int) : ∀ (l : List Int) (m : Int → Option ByteArray), l.foldl delC m b = l.foldl (delB b) (m b)
  | [], m => rfl
  | c :: l, m => by
    rw [List.foldl_cons, List.foldl_cons, dels_at b l]
    congr 1
    unfold delC delB
    by_cases h : b = c
    · rw [if_pos h, if_pos h.symm]
    · rw [if_neg h, if_neg (fun e => h e.symm)]
theorem netT_at (b : Int) (m : Int → Option ByteArray) (t : Tx) : netT m t b = netB b (m b) t := by
  unfold netT netB; rw [dels_at, puts_at]
theorem net_at' (b : Int) : ∀ (l : List Tx) (m : Int → Option ByteArray), l.foldl netT m b = l.foldl (netB b) (m b)
  | [], m => rfl
  | t :: l, m => by rw [List.foldl_cons, List.foldl_cons, net_at' b l, netT_at]
theorem net_at (b : Int) (l : List Tx) : net l b = l.foldl (netB b) none := net_at' b l _
theorem net_snoc (l : List Tx) (t : Tx) : net (l ++ [t]) = netT (net l) t := by unfold net; rw [List.foldl_append]; rfl
/-- a revoke of a block, or a change -/
theorem dels_cases (b : Int) : ∀ (l : List Int) (o : Option ByteArray), l.foldl (delB b) o = if b ∈ l then none else o
  | [], o => by simp
  | c :: l, o => by
    rw [List.foldl_cons, dels_cases b l]
    unfold delB
    by_cases h : b ∈ l
    · rw [if_pos h, if_pos (List.mem_cons_of_mem _ h)]
    · rw [if_neg h]
      by_cases e : c = b
      · rw [if_pos e, if_pos (by rw [e]; simp)]
      · rw [if_neg e, if_neg (by simp [h, Ne.symm e])]
theorem puts_none {b : Int} : ∀ {l : List (Int × ByteArray)} (o : Option ByteArray), b ∉ l.map Prod.fst → l.foldl (putB b) o = o
  | [], o, _ => rfl
  | c :: l, o, h => by
    rw [List.map_cons] at h
    rw [List.foldl_cons, puts_none _ (fun k => h (List.mem_cons_of_mem _ k))]
    unfold putB
    rw [if_neg (fun e => h (by rw [← e]; simp))]
theorem net_mem {b : Int} {d : ByteArray} : ∀ {l : List Tx}, net l b = some d → ∃ t ∈ l, b ∈ t.changes.map Prod.fst := by
  intro l
  rw [net_at]
  suffices H : ∀ (l : List Tx) (o : Option ByteArray), l.foldl (netB b) o = some d → o = some d ∨ ∃ t ∈ l, b ∈ t.changes.map Prod.fst by
    intro h
    rcases H l none h with h | h
    · cases h
    · exact h
  intro l
  induction l with
  | nil => intro o h; exact .inl h
  | cons t l ih =>
    intro o h
    rw [List.foldl_cons] at h
    by_cases hc : b ∈ t.changes.map Prod.fst
    · exact .inr ⟨t, by simp, hc⟩
    · rcases ih _ h with h1 | ⟨x, hx, h2⟩
      · unfold netB at h1
        rw [dels_cases, puts_none _ hc] at h1
        split at h1
        · cases h1
        · exact .inl h1
      · exact .inr ⟨x, List.mem_cons_of_mem _ hx, h2⟩
/-- the changes that it comes to, by ascending blocks -/
def homeL (n : Nat) (m : Int → Option ByteArray) : List (Int × ByteArray) := (List.range n).filterMap fun b : Nat => (m (b : Int)).map fun d => ((b : Int), d)
theorem homeL_zero (m : Int → Option ByteArray) : homeL 0 m = [] := rfl
theorem homeL_succ (n : Nat) (m : Int → Option ByteArray) : homeL (n + 1) m = homeL n m ++ ((m (n : Int)).map fun d => ((n : Int), d)).toList := by
  unfold homeL; rw [List.range_succ, List.filterMap_append]
  cases h : m (n : Int) <;> simp [h]
theorem homeL_below {n : Nat} {m : Int → Option ByteArray} : ∀ c ∈ homeL n m, 0 ≤ c.1 ∧ c.1 < (n : Int) ∧ m c.1 = some c.2 := by
  intro c hc
  unfold homeL at hc
  obtain ⟨b, hb, h⟩ := List.mem_filterMap.1 hc
  have hb := List.mem_range.1 hb
  cases e : m (b : Int) with
  | none => rw [e] at h; cases h
  | some d => rw [e] at h; cases h; exact ⟨by show (0 : Int) ≤ b; omega, by show (b : Int) < n; omega, e⟩
theorem homeL_up {m : Int → Option ByteArray} : ∀ n : Nat, ((homeL n m).map Prod.fst).Pairwise (· < ·)
  | 0 => by simp [homeL_zero]
  | n + 1 => by
    rw [homeL_succ, List.map_append, List.pairwise_append]
    refine ⟨homeL_up n, ?_, ?_⟩
    · cases m (n : Int) <;> simp
    · intro a ha b hb
      obtain ⟨c, hc, rfl⟩ := List.mem_map.1 ha
      have h1 := homeL_below c hc
      cases e : m (n : Int) with
      | none => rw [e] at hb; simp at hb
      | some d => rw [e] at hb; simp at hb; subst hb; exact h1.2.1

/-! ### the log, a step -/
theorem logFrom_some {rd : Nat → ByteArray} {hm : Int → Bool} {p seq slots f used : Nat} {l : List Tx} {t : Tx} {k : Nat}
    (h : stand rd hm (p + used) ((seq + l.length) % 18446744073709551616) (slots - used) (slots - used) 0 ⟨[], []⟩ = some (t, k)) : logFrom rd hm p seq slots (f + 1) used l = logFrom rd hm p seq slots f (used + k) (l ++ [t]) := by
  conv => lhs; unfold logFrom
  rw [h]
theorem logFrom_none {rd : Nat → ByteArray} {hm : Int → Bool} {p seq slots f used : Nat} {l : List Tx}
    (h : stand rd hm (p + used) ((seq + l.length) % 18446744073709551616) (slots - used) (slots - used) 0 ⟨[], []⟩ = none) : logFrom rd hm p seq slots f used l = (l, used) := by
  cases f with
  | zero => rfl
  | succ f => unfold logFrom; rw [h]
/-- where no slot is left, none stands -/
theorem stand_full {rd : Nat → ByteArray} {hm : Int → Bool} {p seq f n : Nat} {t : Tx} : stand rd hm p seq 0 f n t = none := by
  cases f with
  | zero => rfl
  | succ f => unfold stand; rw [if_pos (by omega)]
theorem logFrom_fuel {rd : Nat → ByteArray} {hm : Int → Bool} {p seq slots : Nat} : ∀ (f g used : Nat) (l : List Tx), used ≤ slots → slots ≤ used + f → slots ≤ used + g →
    logFrom rd hm p seq slots f used l = logFrom rd hm p seq slots g used l
  | f, g, used, l, hu, h1, h2 => by
    cases hs : stand rd hm (p + used) ((seq + l.length) % 18446744073709551616) (slots - used) (slots - used) 0 ⟨[], []⟩ with
    | none => rw [logFrom_none hs, logFrom_none hs]
    | some r =>
      obtain ⟨t, k⟩ := r
      have hb := stand_bounds hs
      cases f with
      | zero => exfalso; omega
      | succ f =>
        cases g with
        | zero => exfalso; omega
        | succ g => rw [logFrom_some hs, logFrom_some hs]; exact logFrom_fuel f g (used + k) (l ++ [t]) (by omega) (by omega) (by omega)
  termination_by f => f
/-- the transactions at these places, and where they end: each stands right behind the one ahead of it -/
def Stands (rd : Nat → ByteArray) (hm : Int → Bool) (p seq slots : Nat) : Nat → List Tx → Nat → List Tx → Prop
  | used, l, e, [] => e = used
  | used, l, e, t :: r => ∃ k, stand rd hm (p + used) ((seq + l.length) % 18446744073709551616) (slots - used) (slots - used) 0 ⟨[], []⟩ = some (t, k) ∧ Stands rd hm p seq slots (used + k) (l ++ [t]) e r
theorem logFrom_stands {rd : Nat → ByteArray} {hm : Int → Bool} {p seq slots : Nat} : ∀ (r : List Tx) (f used : Nat) (l : List Tx) (e : Nat), used ≤ slots → slots ≤ used + f → Stands rd hm p seq slots used l e r →
    stand rd hm (p + e) ((seq + (l ++ r).length) % 18446744073709551616) (slots - e) (slots - e) 0 ⟨[], []⟩ = none → logFrom rd hm p seq slots f used l = (l ++ r, e)
  | [], f, used, l, e, hu, hf, h, hn => by
    have h : e = used := h
    subst h
    rw [List.append_nil] at hn ⊢
    exact logFrom_none hn
  | t :: r, f, used, l, e, hu, hf, h, hn => by
    obtain ⟨k, h1, h2⟩ := h
    have hb := stand_bounds h1
    cases f with
    | zero => exfalso; omega
    | succ f =>
      rw [logFrom_some h1, logFrom_stands r f (used + k) (l ++ [t]) e (by omega) (by omega) h2 (by rw [List.append_assoc]; exact hn), List.append_assoc]
      rfl
end Go.Proofs.YtanghmogeiiooaaGreatDoor

/- A region that draws its order, whose operations only read, and whose callees leave what was there: one walk, over the worlds behind. -/
namespace Go.Proofs.YtanghmogeiiooaaGreatDoor
set_option linter.unusedVariables false
open Go.RowKit

theorem GeoAt.all {g : Nat} {b l i la ma ml ta tl da : Int} {w : World} (h : GeoAt g b l i la ma ml ta tl da w) :
    (∀ p : BelowP w, p.to.cell? ⟨g, 0, none⟩ = some (.int .i64 b)) ∧ (∀ p : BelowP w, p.to.cell? ⟨g, 1, none⟩ = some (.int .i64 l)) ∧ (∀ p : BelowP w, p.to.cell? ⟨g, 2, none⟩ = some (.int .i64 i)) ∧ (∀ p : BelowP w, p.to.cell? ⟨g, 3, none⟩ = some (.int .i64 la)) ∧
    (∀ p : BelowP w, p.to.cell? ⟨g, 4, none⟩ = some (.int .i64 ma)) ∧ (∀ p : BelowP w, p.to.cell? ⟨g, 5, none⟩ = some (.int .i64 ml)) ∧ (∀ p : BelowP w, p.to.cell? ⟨g, 6, none⟩ = some (.int .i64 ta)) ∧ (∀ p : BelowP w, p.to.cell? ⟨g, 7, none⟩ = some (.int .i64 tl)) ∧ (∀ p : BelowP w, p.to.cell? ⟨g, 8, none⟩ = some (.int .i64 da)) := by
  have k := fun p : BelowP w => (h.kept1 p.h).cells
  exact ⟨fun p => (k p).1, fun p => (k p).2.1, fun p => (k p).2.2.1, fun p => (k p).2.2.2.1, fun p => (k p).2.2.2.2.1, fun p => (k p).2.2.2.2.2.1, fun p => (k p).2.2.2.2.2.2.1, fun p => (k p).2.2.2.2.2.2.2.1, fun p => (k p).2.2.2.2.2.2.2.2⟩
end Go.Proofs.YtanghmogeiiooaaGreatDoor

/- The ring, its numbers. -/
namespace Go.Proofs.YtanghmogeiiooaaGreatDoor
set_option linter.unusedVariables false
open Go.RowKit

/-- a ring, as a value: its device, and its layout's numbers, all in one row -/
abbrev ringC (d : Option Addr) (b l i la ma ml ta tl da : Int) : Array Value := #[.pointer d, .int .i64 b, .int .i64 l, .int .i64 i, .int .i64 la, .int .i64 ma, .int .i64 ml, .int .i64 ta, .int .i64 tl, .int .i64 da]
abbrev ringV (d : Option Addr) (b l i la ma ml ta tl da : Int) : Value := .agg (ringC d b l i la ma ml ta tl da)
def RingAt (g : Nat) (d : Option Addr) (b l i la ma ml ta tl da : Int) (w : World) : Prop := w.heap[g]? = some (.cells (ringC d b l i la ma ml ta tl da) 87 (0, 0))
theorem RingAt.new (d : Option Addr) (b l i la ma ml ta tl da : Int) (w : World) : RingAt w.heap.size d b l i la ma ml ta tl da (w.alloc (.cells (ringC d b l i la ma ml ta tl da) 87)) := heap_alloc_new _ _
theorem RingAt.cells {g : Nat} {d : Option Addr} {b l i la ma ml ta tl da : Int} {w : World} (h : RingAt g d b l i la ma ml ta tl da w) :
    w.cell? ⟨g, 0, none⟩ = some (.pointer d) ∧ w.cell? ⟨g, 1, none⟩ = some (.int .i64 b) ∧ w.cell? ⟨g, 2, none⟩ = some (.int .i64 l) ∧ w.cell? ⟨g, 3, none⟩ = some (.int .i64 i) ∧ w.cell? ⟨g, 4, none⟩ = some (.int .i64 la) ∧
    w.cell? ⟨g, 5, none⟩ = some (.int .i64 ma) ∧ w.cell? ⟨g, 6, none⟩ = some (.int .i64 ml) ∧ w.cell? ⟨g, 7, none⟩ = some (.int .i64 ta) ∧ w.cell? ⟨g, 8, none⟩ = some (.int .i64 tl) ∧ w.cell? ⟨g, 9, none⟩ = some (.int .i64 da) := by
  unfold RingAt at h; simp [World.cell?, h]
theorem RingAt.lt {g : Nat} {d : Option Addr} {b l i la ma ml ta tl da : Int} {w : World} (h : RingAt g d b l i la ma ml ta tl da w) : g < w.heap.size := lt_of_block h
theorem RingAt.kept {g B : Nat} {d : Option Addr} {b l i la ma ml ta tl da : Int} {w w' : World} (h : RingAt g d b l i la ma ml ta tl da w) (hb : Below B w w') (hB : g < B) : RingAt g d b l i la ma ml ta tl da w' := (hb.block g hB).trans h
theorem RingAt.kept1 {g : Nat} {d : Option Addr} {b l i la ma ml ta tl da : Int} {w w' : World} (h : RingAt g d b l i la ma ml ta tl da w) (hb : Below w.heap.size w w') : RingAt g d b l i la ma ml ta tl da w' := h.kept hb h.lt

theorem RingAt.all {g : Nat} {d : Option Addr} {b l i la ma ml ta tl da : Int} {w : World} (h : RingAt g d b l i la ma ml ta tl da w) :
    (∀ p : BelowP w, p.to.cell? ⟨g, 0, none⟩ = some (.pointer d)) ∧ (∀ p : BelowP w, p.to.cell? ⟨g, 1, none⟩ = some (.int .i64 b)) ∧ (∀ p : BelowP w, p.to.cell? ⟨g, 2, none⟩ = some (.int .i64 l)) ∧ (∀ p : BelowP w, p.to.cell? ⟨g, 3, none⟩ = some (.int .i64 i)) ∧ (∀ p : BelowP w, p.to.cell? ⟨g, 4, none⟩ = some (.int .i64 la)) ∧
    (∀ p : BelowP w, p.to.cell? ⟨g, 5, none⟩ = some (.int .i64 ma)) ∧ (∀ p : BelowP w, p.to.cell? ⟨g, 6, none⟩ = some (.int .i64 ml)) ∧ (∀ p : BelowP w, p.to.cell? ⟨g, 7, none⟩ = some (.int .i64 ta)) ∧ (∀ p : BelowP w, p.to.cell? ⟨g, 8, none⟩ = some (.int .i64 tl)) ∧ (∀ p : BelowP w, p.to.cell? ⟨g, 9, none⟩ = some (.int .i64 da)) := by
  have k := fun p : BelowP w => (h.kept1 p.h).cells
  exact ⟨fun p => (k p).1, fun p => (k p).2.1, fun p => (k p).2.2.1, fun p => (k p).2.2.2.1, fun p => (k p).2.2.2.2.1, fun p => (k p).2.2.2.2.2.1, fun p => (k p).2.2.2.2.2.2.1, fun p => (k p).2.2.2.2.2.2.2.1, fun p => (k p).2.2.2.2.2.2.2.2.1, fun p => (k p).2.2.2.2.2.2.2.2.2⟩

theorem jslots_any (d : Option Addr) (b l i la ma ml ta tl da : Int) (hl : 128 ≤ l ∧ l ≤ 512) (w : World) :
    Calls Tryz.prog 59 #[ringV d b l i la ma ml ta tl da] w fun e w' => e = .returned (.int .i64 (l - 1)) ∧ Below w.heap.size w w' := by
  go_enter Tryz.func59, Tryz.ntmps59
  go_wp2
  go_ret
  exact ⟨by go_num, balloc1 w _⟩
theorem jblock_any (d : Option Addr) (b l i la ma ml ta tl da : Int) (hl : 128 ≤ l ∧ l ≤ 512) (hla : 0 ≤ la ∧ la ≤ 4096) (slot : Nat) (hs : slot ≤ 4096) (w : World) :
    Calls Tryz.prog 75 #[ringV d b l i la ma ml ta tl da, .int .i64 slot] w fun e w' => e = .returned (.int .i64 (la + 1 + (slot : Int) % (l - 1))) ∧ Below w.heap.size w w' := by
  have S := Lib.hid (jslots_any d b l i la ma ml ta tl da hl)
  have hm : (slot : Int).tmod (l - 1) = (slot : Int) % (l - 1) := Int.tmod_eq_emod_of_nonneg (by omega)
  have hm1 : 0 ≤ (slot : Int) % (l - 1) := Int.emod_nonneg _ (by omega)
  have hm2 : (slot : Int) % (l - 1) < l - 1 := Int.emod_lt_of_pos _ (by omega)
  generalize (slot : Int) % (l - 1) = r at *
  have R := RingAt.new d b l i la ma ml ta tl da w
  have hlt := R.lt
  obtain ⟨c0, c1, c2, c3, c4, c5, c6, c7, c8, c9⟩ := R.all
  have hw := balloc1 w (.cells (ringC d b l i la ma ml ta tl da) 87)
  have mixed : Tryz.prog.follows .mixedOrders = true := by kernel_rfl
  go_enter Tryz.func75, Tryz.ntmps75
  go_wp2
  generalize w.alloc (.cells (ringC d b l i la ma ml ta tl da) 87) = w1 at *
  refine wp_region_quiet_below mixed (by kernel_rfl) ?_
  repeat (go_big_quiet_step (first | (go_at_call 59; refine calls_below (S.out _))))
  refine wpQuiet_nil ?_
  intro w0q hw'
  obtain ⟨⟨wq, bq⟩, hw''⟩ := hw'
  have hw2 : wq = w0q := hw''.symm
  clear hw''
  subst hw2
  go_wp2
  go_ret
  exact ⟨rfl, bnext hw bq⟩
theorem jhome_any (d : Option Addr) (b l i la ma ml ta tl da : Int) (hl : 128 ≤ l ∧ l ≤ 512) (hla : 0 ≤ la ∧ la ≤ 4096) (x : Int) (w : World) :
    Calls Tryz.prog 98 #[ringV d b l i la ma ml ta tl da, .int .i64 x] w fun e w' => e = .returned (.bool (decide (0 ≤ x ∧ x < b ∧ ¬ (la ≤ x ∧ x < la + l)))) ∧ Below w.heap.size w w' := by
  have R := RingAt.new d b l i la ma ml ta tl da w
  have hlt := R.lt
  have hw := balloc1 w (.cells (ringC d b l i la ma ml ta tl da) 87)
  have mixed : Tryz.prog.follows .mixedOrders = true := by kernel_rfl
  by_cases h1 : la ≤ x <;> by_cases h2 : x < la + l <;> by_cases h3 : 0 ≤ x <;> by_cases h4 : x < b
  all_goals try (exfalso; omega)
  all_goals
    obtain ⟨c0, c1, c2, c3, c4, c5, c6, c7, c8, c9⟩ := R.all
    go_enter Tryz.func98, Tryz.ntmps98
    go_wp2
    refine bodyPost_ret (results_tmp rfl _ _ _) rfl ?_
    exact ⟨by simp [h1, h2, h3, h4], hw⟩
theorem jgroups_any (n m : Nat) (hn : n ≤ 1000000000) (hm : 0 < m) (hm2 : m ≤ 4096) (w : World) :
    Calls Tryz.prog 52 #[.int .i64 n, .int .i64 m] w fun e w' => e = .returned (.int .i64 (((n + m - 1) / m : Nat) : Int)) ∧ w = w' := by
  obtain ⟨q, hq⟩ : ∃ q : Nat, q = (n + m - 1) / m := ⟨_, rfl⟩
  have hq1 : q ≤ n + m - 1 := by rw [hq]; exact Nat.div_le_self _ _
  have e1 : ((n : Int) + (m : Int) - 1).tdiv (m : Int) = (q : Int) := by
    rw [show ((n : Int) + m - 1) = ((n + m - 1 : Nat) : Int) by omega, ← Int.ofNat_tdiv, hq]
  rw [← hq]
  clear hq
  go_enter Tryz.func52, Tryz.ntmps52
  go_wp2
  go_ret
  exact ⟨rfl, rfl⟩
end Go.Proofs.YtanghmogeiiooaaGreatDoor

/- The program's device in memory; missing, exists, act, block, Blocks, Dead, Acts, Arm. -/
namespace Go.Proofs.YtanghmogeiiooaaGreatDoor
set_option linter.unusedVariables false
open Go.RowKit

def devCells (d gn gk gp cn ck : Nat) (l : Int) (n acts : Nat) : Array Value :=
  #[.pointer (some ⟨d, 0, none⟩), .slice (some ⟨gn, 0, none⟩) (n * 128) cn, .slice (some ⟨gk, 0, none⟩) (n * 128) ck, .slice (some ⟨gp, 0, none⟩) n n, .int .i64 l, .int .i64 (acts : Int)]
/-- the device d, whose memory lies in the blocks from lo up to hi, is as S says -/
structure Dev (d lo hi gn gk gp cn ck : Nat) (l : Int) (S : St) (w : World) : Prop where
  ok : S.ok
  blk : Blk d (devCells d gn gk gp cn ck l S.n S.acts) 82 w
  now : CellsAt gn (S.n * 128) (byF S.now) w
  was : CellsAt gk (S.n * 128) (byF S.was) w
  pend : CellsAt gp S.n (fun j => .bool (S.pend j)) w
  left : noLess l = S.left
  i64 : I64 l
  cn : S.n * 128 ≤ cn ∧ cn ≤ 9223372036854775807
  ck : S.n * 128 ≤ ck ∧ ck ≤ 9223372036854775807
  zd : lo ≤ d ∧ d < hi
  zn : lo ≤ gn ∧ gn < hi
  zk : lo ≤ gk ∧ gk < hi
  zp : lo ≤ gp ∧ gp < hi
  top : hi ≤ w.heap.size
  a1 : d ≠ gn
  a2 : d ≠ gk
  a3 : d ≠ gp
  a4 : gn ≠ gk
  a5 : gn ≠ gp
  a6 : gk ≠ gp
def DevAt (d lo hi : Nat) (S : St) (w : World) : Prop := ∃ gn gk gp cn ck l, Dev d lo hi gn gk gp cn ck l S w
section
variable {d lo hi gn gk gp cn ck : Nat} {l : Int} {S : St} {w w' : World}
theorem Dev.at (h : Dev d lo hi gn gk gp cn ck l S w) : DevAt d lo hi S w := ⟨_, _, _, _, _, _, h⟩
theorem Dev.kept {lo' hi' : Nat} (h : Dev d lo hi gn gk gp cn ck l S w) (z : Zone lo' hi' w w') (hz : hi ≤ lo' ∨ hi' ≤ lo) : Dev d lo hi gn gk gp cn ck l S w' := by
  have zd := h.zd; have zn := h.zn; have zk := h.zk; have zp := h.zp
  exact ⟨h.ok, h.blk.kept z (by omega), h.now.kept z (by omega), h.was.kept z (by omega), h.pend.kept z (by omega), h.left, h.i64, h.cn, h.ck, zd, zn, zk, zp, Nat.le_trans h.top z.size, h.a1, h.a2, h.a3, h.a4, h.a5, h.a6⟩
theorem Dev.kept1 (h : Dev d lo hi gn gk gp cn ck l S w) (b : Below w.heap.size w w') : Dev d lo hi gn gk gp cn ck l S w' :=
  h.kept (Zone.of_below b hi hi) (.inl (Nat.le_refl _))
theorem DevAt.kept {lo' hi' : Nat} (h : DevAt d lo hi S w) (z : Zone lo' hi' w w') (hz : hi ≤ lo' ∨ hi' ≤ lo) : DevAt d lo hi S w' := by
  obtain ⟨_, _, _, _, _, _, h⟩ := h; exact (h.kept z hz).at
theorem DevAt.kept1 (h : DevAt d lo hi S w) (b : Below w.heap.size w w') : DevAt d lo hi S w' := by
  obtain ⟨_, _, _, _, _, _, h⟩ := h; exact (h.kept1 b).at
theorem DevAt.ok (h : DevAt d lo hi S w) : S.ok := by obtain ⟨_, _, _, _, _, _, h⟩ := h; exact h.ok
theorem DevAt.top (h : DevAt d lo hi S w) : hi ≤ w.heap.size := by obtain ⟨_, _, _, _, _, _, h⟩ := h; exact h.top
theorem DevAt.lohi (h : DevAt d lo hi S w) : lo < hi := by obtain ⟨_, _, _, _, _, _, h⟩ := h; have := h.zd; omega
theorem DevAt.widen {lo' hi' : Nat} (h : DevAt d lo hi S w) (h1 : lo' ≤ lo) (h2 : hi ≤ hi') (h3 : hi' ≤ w.heap.size) : DevAt d lo' hi' S w := by
  obtain ⟨gn, gk, gp, cn, ck, l, h⟩ := h
  have zd := h.zd; have zn := h.zn; have zk := h.zk; have zp := h.zp
  exact ⟨gn, gk, gp, cn, ck, l, h.ok, h.blk, h.now, h.was, h.pend, h.left, h.i64, h.cn, h.ck, by omega, by omega, by omega, by omega, h3, h.a1, h.a2, h.a3, h.a4, h.a5, h.a6⟩
theorem Dev.cells (h : Dev d lo hi gn gk gp cn ck l S w) :
    w.cell? ⟨d, 0, none⟩ = some (.pointer (some ⟨d, 0, none⟩)) ∧ w.cell? ⟨d, 1, none⟩ = some (.slice (some ⟨gn, 0, none⟩) (S.n * 128) cn) ∧ w.cell? ⟨d, 2, none⟩ = some (.slice (some ⟨gk, 0, none⟩) (S.n * 128) ck) ∧
    w.cell? ⟨d, 3, none⟩ = some (.slice (some ⟨gp, 0, none⟩) S.n S.n) ∧ w.cell? ⟨d, 4, none⟩ = some (.int .i64 l) ∧ w.cell? ⟨d, 5, none⟩ = some (.int .i64 (S.acts : Int)) :=
  ⟨h.blk.cell 0, h.blk.cell 1, h.blk.cell 2, h.blk.cell 3, h.blk.cell 4, h.blk.cell 5⟩
end

/-! ### pointers, compared -/
theorem dev_size : (Tryz.prog.info? 82).map (·.size) = some 6 := by kernel_rfl
theorem equal_none (w : World) (p : Addr) : ∀ d, (Op.equalIn (d + 1) 34 (.pointer none) (.pointer (some p))).run Tryz.prog w = .ok false w := fun d => by
  simp [Op.equalIn, run_underlying Tryz.underlying34]
theorem equal_self (w : World) (p : Addr) : ∀ d, (Op.equalIn (d + 1) 34 (.pointer (some p)) (.pointer (some p))).run Tryz.prog w = .ok true w := fun d => by
  obtain ⟨i, hi, hs⟩ := Option.map_eq_some_iff.1 dev_size
  simp [Op.equalIn, run_underlying Tryz.underlying34, sizeOf, typeInfo, hi, sameAddr]
theorem run_neq_none (w : World) (p : Addr) : (binOp .neq 34 (.pointer none) (.pointer (some p))).run Tryz.prog w = .ok (.bool true) w := by
  have h : (Op.equal 34 (.pointer none) (.pointer (some p))).run Tryz.prog w = .ok false w := equal_none w p 9999
  simp only [binOp]
  simp [h]
theorem run_neq_self (w : World) (p : Addr) : (binOp .neq 34 (.pointer (some p)) (.pointer (some p))).run Tryz.prog w = .ok (.bool false) w := by
  have h : (Op.equal 34 (.pointer (some p)) (.pointer (some p))).run Tryz.prog w = .ok true w := equal_self w p 9999
  simp only [binOp]
  simp [h]

/-! ### a device that is none -/
def NoDev (v : Value) (w : World) : Prop := v = .pointer none ∨ ∃ d, v = .pointer (some ⟨d, 0, none⟩) ∧ w.cell? ⟨d, 0, none⟩ = some (.pointer none)
theorem missing_yes (v : Value) (w : World) (h : NoDev v w) : Calls Tryz.prog 31 #[v] w fun e w' => e = .returned (.bool true) ∧ w = w' := by
  rcases h with rfl | ⟨d, rfl, h⟩
  · go_enter Tryz.func31, Tryz.ntmps31
    go_wp2
    go_ret
    exact ⟨rfl, rfl⟩
  · have hq := run_neq_none
    go_enter Tryz.func31, Tryz.ntmps31
    go_wp2
    go_ret
    exact ⟨rfl, rfl⟩
theorem missing_no (d : Nat) (w : World) (h : w.cell? ⟨d, 0, none⟩ = some (.pointer (some ⟨d, 0, none⟩))) :
    Calls Tryz.prog 31 #[.pointer (some ⟨d, 0, none⟩)] w fun e w' => e = .returned (.bool false) ∧ w = w' := by
  have hq := run_neq_self
  go_enter Tryz.func31, Tryz.ntmps31
  go_wp2
  go_ret
  exact ⟨rfl, rfl⟩
theorem exists_in (d gp n cap : Nat) (b : Nat) (hb : b < n) (hn : n ≤ 4096) (w : World) (h : w.cell? ⟨d, 3, none⟩ = some (.slice (some ⟨gp, 0, none⟩) n cap)) :
    Calls Tryz.prog 71 #[.pointer (some ⟨d, 0, none⟩), .int .i64 (b : Int)] w fun e w' => e = .returned (.bool true) ∧ w = w' := by
  go_enter Tryz.func71, Tryz.ntmps71
  go_wp2
  go_ret
  exact ⟨rfl, rfl⟩
theorem exists_out (d gp n cap : Nat) (b : Int) (hb : b < 0 ∨ (n : Int) ≤ b) (hn : n ≤ 4096) (w : World) (h : w.cell? ⟨d, 3, none⟩ = some (.slice (some ⟨gp, 0, none⟩) n cap)) :
    Calls Tryz.prog 71 #[.pointer (some ⟨d, 0, none⟩), .int .i64 b] w fun e w' => e = .returned (.bool false) ∧ w = w' := by
  rcases hb with hb | hb
  · go_enter Tryz.func71, Tryz.ntmps71
    go_wp2
    go_ret
    exact ⟨rfl, rfl⟩
  · have hb0 : 0 ≤ b := by omega
    go_enter Tryz.func71, Tryz.ntmps71
    go_wp2
    go_ret
    exact ⟨ret_bool (decide_eq_false (by omega)), rfl⟩
theorem block_any (g len cap b : Nat) (hb : b < 4096) (h1 : (b + 1) * 128 ≤ len) (h2 : len ≤ cap) (h3 : cap ≤ 9223372036854775807) (w : World) :
    Calls Tryz.prog 34 #[.slice (some ⟨g, 0, none⟩) len cap, .int .i64 (b : Int)] w fun e w' => e = .returned (.slice (some ⟨g, b * 128, none⟩) 128 (cap - b * 128)) ∧ w = w' := by
  have h4 : b * 128 < cap := by omega
  have h5 : ((b : Int) + 1) * 128 ≤ (cap : Int) := by omega
  have H6 := Lib.hid (show (b + 1) * 128 - b * 128 = 128 by omega)
  go_enter Tryz.func34, Tryz.ntmps34
  go_wp2
  go_ret
  exact ⟨by show Ending.returned (.slice _ ((b + 1) * 128 - b * 128) _) = _; rw [H6.out], rfl⟩
theorem act_no {d lo hi gn gk gp cn ck : Nat} {l : Int} {S : St} (w : World) (h : Dev d lo hi gn gk gp cn ck l S w) (h0 : S.left = 0) :
    Calls Tryz.prog 69 #[.pointer (some ⟨d, 0, none⟩)] w fun e w' => e = .returned (.bool false) ∧ w = w' := by
  have hl : l = 0 := by have := h.left; unfold noLess at this; split at this <;> omega
  obtain ⟨_, _, _, _, c4, _⟩ := h.cells
  subst hl
  clear h h0
  go_enter Tryz.func69, Tryz.ntmps69
  go_wp2
  go_ret
  exact ⟨rfl, rfl⟩
theorem act_yes {d lo hi gn gk gp cn ck : Nat} {l : Int} {S : St} (w : World) (h : Dev d lo hi gn gk gp cn ck l S w) (h0 : S.left ≠ 0) (ha : S.acts ≤ 1000000) :
    Calls Tryz.prog 69 #[.pointer (some ⟨d, 0, none⟩)] w fun e w' => e = .returned (.bool true) ∧ Dev d lo hi gn gk gp cn ck (lessOne l) S.acted w' ∧ Zone lo hi w w' := by
  have hl := h.left
  obtain ⟨_, _, _, _, c4, c5⟩ := h.cells
  have f4 := h.blk.frozen 4
  have f5 := h.blk.frozen 5
  have hi64 := h.i64
  have hleft : noLess (lessOne l) = S.acted.left := by
    show _ = lessOne S.left
    rw [← hl]; unfold noLess lessOne; split <;> split <;> (try split) <;> omega
  have hw : ∀ w2, Blk d (devCells d gn gk gp cn ck (lessOne l) S.n (S.acts + 1)) 82 w2 → w2.heap.size = w.heap.size → (∀ k, k ≠ d → w2.heap[k]? = w.heap[k]?) → Dev d lo hi gn gk gp cn ck (lessOne l) S.acted w2 := fun w2 hb hs hk =>
    ⟨acted_ok h.ok, hb, h.now.eq_block (by omega) (hk _ (Ne.symm h.a1)), h.was.eq_block (by omega) (hk _ (Ne.symm h.a2)), h.pend.eq_block (by omega) (hk _ (Ne.symm h.a3)), hleft, by unfold lessOne; split <;> (constructor <;> omega), h.cn, h.ck, h.zd, h.zn, h.zk, h.zp, by have := h.top; omega, h.a1, h.a2, h.a3, h.a4, h.a5, h.a6⟩
  have HW := Lib.hid hw
  have HB := Lib.hid h.blk
  have HZ := Lib.hid h.zd
  have hl0 : l ≠ 0 := fun e => h0 (by rw [← hl, e]; rfl)
  clear hw hleft hl h h0
  by_cases hp : 0 < l
  · have e : lessOne l = l - 1 := by unfold lessOne; rw [if_pos hp]
    rw [e] at HW ⊢
    clear e
    go_enter Tryz.func69, Tryz.ntmps69
    go_wp2
    go_ret
    refine ⟨rfl, HW.out _ ?_ (by simp [World.setCell]) (fun k hk => by rw [Below.heap_setCell _ _ _ _ (by simpa using hk), Below.heap_setCell _ _ _ _ (by simpa using hk)]), ((Zone.refl _ _ _).set HZ.out.1 HZ.out.2 _).set HZ.out.1 HZ.out.2 _⟩
    exact ((HB.out.set 4 _).set 5 _)
  · have e : lessOne l = l := by unfold lessOne; rw [if_neg hp]
    rw [e] at HW ⊢
    clear e
    go_enter Tryz.func69, Tryz.ntmps69
    go_wp2
    go_ret
    refine ⟨rfl, HW.out _ ?_ (by simp [World.setCell]) (fun k hk => by rw [Below.heap_setCell _ _ _ _ (by simpa using hk)]), (Zone.refl _ _ _).set HZ.out.1 HZ.out.2 _⟩
    exact (HB.out.set 5 _)
theorem arm_any {d lo hi : Nat} {S : St} (n : Int) (hn : I64 n) (w : World) (h : DevAt d lo hi S w) :
    Calls Tryz.prog 9 #[.pointer (some ⟨d, 0, none⟩), .int .i64 n] w fun e w' => e = .returned (.tuple #[]) ∧ DevAt d lo hi (S.armed n) w' ∧ Zone lo hi w w' := by
  obtain ⟨gn, gk, gp, cn, ck, l, h⟩ := h
  obtain ⟨c0, _, _, _, c4, _⟩ := h.cells
  have f4 := h.blk.frozen 4
  have M := Lib.hid (missing_no d w c0)
  have H := Lib.hid h
  clear h
  go_enter Tryz.func9, Tryz.ntmps9
  go_wp2_with fail
  refine M.out.mono ?_; rintro e w' ⟨rfl, rfl⟩
  go_wp2
  go_end0
  have h := H.out
  exact ⟨rfl, ⟨gn, gk, gp, cn, ck, n, armed_ok h.ok hn.2, h.blk.set 4 _, h.now.other h.a1 _, h.was.other h.a2 _, h.pend.other h.a3 _, rfl, hn, h.cn, h.ck, h.zd, h.zn, h.zk, h.zp, by have := h.top; simpa [World.setCell] using this, h.a1, h.a2, h.a3, h.a4, h.a5, h.a6⟩, (Zone.refl _ _ _).set h.zd.1 h.zd.2 _⟩
theorem acts_any {d lo hi : Nat} {S : St} (w : World) (h : DevAt d lo hi S w) :
    Calls Tryz.prog 15 #[.pointer (some ⟨d, 0, none⟩)] w fun e w' => e = .returned (.int .i64 (S.acts : Int)) ∧ w = w' := by
  obtain ⟨gn, gk, gp, cn, ck, l, h⟩ := h
  obtain ⟨c0, _, _, _, _, c5⟩ := h.cells
  have M := Lib.hid (missing_no d w c0)
  clear h
  go_enter Tryz.func15, Tryz.ntmps15
  go_wp2_with fail
  refine M.out.mono ?_; rintro e w' ⟨rfl, rfl⟩
  go_wp2
  go_ret
  exact ⟨rfl, rfl⟩
theorem blocks_any {d lo hi : Nat} {S : St} (w : World) (h : DevAt d lo hi S w) :
    Calls Tryz.prog 60 #[.pointer (some ⟨d, 0, none⟩)] w fun e w' => e = .returned (.int .i64 (S.n : Int)) ∧ w = w' := by
  obtain ⟨gn, gk, gp, cn, ck, l, h⟩ := h
  obtain ⟨c0, _, _, c3, _, _⟩ := h.cells
  have M := Lib.hid (missing_no d w c0)
  clear h
  go_enter Tryz.func60, Tryz.ntmps60
  go_wp2_with fail
  refine M.out.mono ?_; rintro e w' ⟨rfl, rfl⟩
  go_wp2
  go_ret
  exact ⟨rfl, rfl⟩
end Go.Proofs.YtanghmogeiiooaaGreatDoor

/- Size; missing, refused, Room, Next. -/
namespace Go.Proofs.YtanghmogeiiooaaGreatDoor
set_option linter.unusedVariables false
open Go.RowKit

/-- how many blocks a transaction takes -/
def sizeT (nc nr : Nat) : Nat := (nr + 28 - 1) / 28 + (nc + 24 - 1) / 24 + nc + 1
set_option maxRecDepth 100000 in
set_option maxHeartbeats 4000000 in
theorem size_any (ac ar : Option Addr) (nc nr cc cr : Nat) (hc : nc ≤ 1000000) (hr : nr ≤ 1000000) (w : World) :
    Calls Tryz.prog 25 #[.agg #[.slice ac nc cc, .slice ar nr cr]] w fun e w' => e = .returned (.int .i64 (sizeT nc nr : Int)) ∧ Below w.heap.size w w' := by
  have mixed : Tryz.prog.follows .mixedOrders = true := by kernel_rfl
  have G1 := fun w => jgroups_any nr 28 (by omega) (by omega) (by omega) w
  have G2 := fun w => jgroups_any nc 24 (by omega) (by omega) (by omega) w
  unfold sizeT
  have h1 : (nr + 28 - 1) / 28 ≤ nr + 28 - 1 := Nat.div_le_self _ _
  have h2 : (nc + 24 - 1) / 24 ≤ nc + 24 - 1 := Nat.div_le_self _ _
  obtain ⟨x, hx⟩ : ∃ x, (nr + 28 - 1) / 28 = x := ⟨_, rfl⟩
  obtain ⟨y, hy⟩ : ∃ y, (nc + 24 - 1) / 24 = y := ⟨_, rfl⟩
  rw [hx] at G1 h1
  rw [hy] at G2 h2
  rw [hx, hy]
  clear hx hy
  have H1 : Hid (∀ w, Calls Tryz.prog 52 #[.int .i64 (nr : Int), .int .i64 28] w fun e w' => e = .returned (.int .i64 (x : Int)) ∧ Below w.heap.size w w') := Lib.hid fun w => (G1 w).mono fun e w' q => ⟨q.1, by rw [← q.2]; exact Below.refl _ _⟩
  have H2 : Hid (∀ w, Calls Tryz.prog 52 #[.int .i64 (nc : Int), .int .i64 24] w fun e w' => e = .returned (.int .i64 (y : Int)) ∧ Below w.heap.size w w') := Lib.hid fun w => (G2 w).mono fun e w' q => ⟨q.1, by rw [← q.2]; exact Below.refl _ _⟩
  clear G1 G2
  obtain ⟨w1, hw1⟩ : ∃ w1, w.alloc (.cells #[.slice ac nc cc, .slice ar nr cr] 64) = w1 := ⟨_, rfl⟩
  have T1 : Blk w.heap.size #[.slice ac nc cc, .slice ar nr cr] 64 w1 := by rw [← hw1]; exact Blk.new _ _ _
  have hb1 : Below w.heap.size w w1 := by rw [← hw1]; exact balloc1 _ _
  have t0 : ∀ p : BelowP w1, p.to.cell? ⟨w.heap.size, 0, none⟩ = some (.slice ac nc cc) := fun p => (T1.kept1 p.h).cell 0
  have t1 : ∀ p : BelowP w1, p.to.cell? ⟨w.heap.size, 1, none⟩ = some (.slice ar nr cr) := fun p => (T1.kept1 p.h).cell 1
  have HW1 := Lib.hid hw1
  clear T1 hw1
  go_enter Tryz.func25, Tryz.ntmps25
  go_wp2
  rw [HW1.out]
  refine wp_region_quiet_below mixed (by kernel_rfl) ?_
  repeat (go_big_quiet_step (first | (go_at_call 52; first | refine calls_below (H1.out _) | refine calls_below (H2.out _))))
  refine wpQuiet_nil ?_
  intro w0q hw'
  obtain ⟨⟨wq, bq⟩, hw''⟩ := hw'
  have hw2 : wq = w0q := hw''.symm
  clear hw''
  subst hw2
  go_wp2
  go_ret
  exact ⟨by go_num, bnext hb1 bq⟩
end Go.Proofs.YtanghmogeiiooaaGreatDoor
