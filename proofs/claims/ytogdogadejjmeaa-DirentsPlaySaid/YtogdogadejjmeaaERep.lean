/- repeated: a map of the names. -/
import Derived.Test.YtogdogadejjmeaaENum
import Derived.Maps.OwnOps
import Derived.Maps.OwnSet
namespace Go.Proofs.Ytogdogadejjmeaa
set_option linter.unusedVariables false
open Go.RowKit Go.Maps

/-- how many names the first k entries have -/
def dcnt (l : List Den) : Nat → Nat
  | 0 => 0
  | k + 1 => dcnt l k + if Has (l.take k) (dat l k).name then 0 else 1
theorem dcnt_succ (l : List Den) (k : Nat) : dcnt l (k + 1) = dcnt l k + if Has (l.take k) (dat l k).name then 0 else 1 := rfl
theorem dcnt_le (l : List Den) : ∀ k, dcnt l k ≤ k
  | 0 => Nat.le_refl _
  | k + 1 => by have := dcnt_le l k; rw [dcnt_succ]; split <;> omega
theorem dcnt_full (l : List Den) : ∀ k, k ≤ l.length → (dcnt l k = k ↔ Apart (l.take k))
  | 0, _ => by simp [dcnt, Apart]
  | k + 1, h => by
    have ih := dcnt_full l k (by omega)
    have hl := dcnt_le l k
    rw [List.take_succ_eq_append_getElem (show k < l.length by omega), apart_snoc, ← ih, ← dat_eq (show k < l.length by omega)]
    rw [dcnt_succ]
    by_cases hm : Has (l.take k) (dat l k).name
    · rw [if_pos hm]; constructor
      · intro e; omega
      · rintro ⟨_, e⟩; exact absurd hm e
    · rw [if_neg hm]; constructor
      · intro e; exact ⟨by omega, hm⟩
      · rintro ⟨e, _⟩; omega
/-- block m is the set of these names, c of them -/
def SetAt (m n c : Nat) (L : List Den) (w : World) : Prop := ∃ D : DataW Unit, w.ownsMap Try.prog 9 unitElem m n D ∧ Maps.size D = c ∧ ∀ s : ByteArray, Maps.has D (.string s.data.toList) = decide (Has L s)
theorem SetAt.made (w : World) : SetAt w.heap.size 0 0 [] (w.alloc (.map #[] 0)) := ⟨.map [], World.ownsMap_made _ _ _ _, rfl, fun s => by simp [Has]; rfl⟩
theorem SetAt.lt {m n c : Nat} {L : List Den} {w : World} (h : SetAt m n c L w) : m < w.heap.size := by obtain ⟨D, h, _⟩ := h; exact h.lt
theorem SetAt.same {m n c : Nat} {L : List Den} {w w' : World} (h : SetAt m n c L w) (e : w'.heap[m]? = w.heap[m]?) : SetAt m n c L w' := by
  obtain ⟨D, ⟨es, clock, hb, r2⟩, r⟩ := h
  exact ⟨D, ⟨es, clock, e.trans hb, r2⟩, r⟩
theorem skey : Keyed Try.prog 9 := string_keyed Try.underlying9
theorem slit (s : List UInt8) : WideAt.IsKeyLit (.string s) := by first | trivial | simp [WideAt.IsKeyLit] | exact .inr (.inr ⟨_, rfl⟩)
theorem SetAt.len {m n c : Nat} {L : List Den} {w : World} (h : SetAt m n c L w) (ty : TypeId) : (Builtin.len_ #[78] ty #[.map (some m)]).run Try.prog w = .ok (.int .i64 (c : Int)) w := by
  obtain ⟨D, h, hs, hf⟩ := h
  have := h.len Try.underlying78 ty
  rwa [hs] at this
theorem SetAt.put {m n c : Nat} {L : List Den} {w : World} (h : SetAt m n c L w) (hn : n ≤ 1000000) (d : Den) (hs : d.name.size ≤ maxLen) :
    ∃ w', (Instr.mapUpdate 78 (.map (some m)) (.string d.name) (.agg #[])).run Try.prog w = .ok () w' ∧ SetAt m (n + 1) (c + if Has L d.name then 0 else 1) (L ++ [d]) w' ∧ w.grownBy w' (some m) := by
  obtain ⟨D, h, hz, hf⟩ := h
  obtain ⟨w', hrun, ho, hg⟩ := h.update skey Try.underlying78 (by unfold maxLen; omega) (WideMaps.keyOf_string_mk Try.underlying9 hs) unitElem_mk
  have hD := h.isMap
  refine ⟨w', hrun, ⟨_, ho, ?_, fun s => ?_⟩, hg⟩
  · rw [Maps.size_put (h.tidy skey), hf, hz]
    by_cases k : Has L d.name
    · rw [decide_eq_true k, if_pos rfl, if_pos k]; rfl
    · rw [decide_eq_false k, if_neg (by decide), if_neg k]
  · by_cases e : s = d.name
    · subst e
      rw [Maps.has_put_same hD (slit _)]
      exact (decide_eq_true (by unfold Has; simp)).symm
    · have hne : (Lit.string s.data.toList) ≠ (Lit.string d.name.data.toList) := fun h => e (by have h2 := congrArg bs (Lit.string.inj h); rwa [bs_of, bs_of] at h2)
      rw [Maps.has_put_other hne, hf, decide_eq_decide]
      unfold Has
      simp [e]
theorem wpList_setPut {ops : Array Oper} {rest : List Oper} {o : Oper} {a : Act} {Q : Exit → Act → World → Prop} {w : World} (hgd : o.guard = none) (x y z : Operand) (hop : o.op = Op.mapUpdate 78 x y z) {m n c : Nat} {L : List Den} (h : SetAt m n c L w) (hn : n ≤ 1000000) (d : Den) (hs : d.name.size ≤ maxLen)
    (hx : a.eval x = .map (some m)) (hy : a.eval y = .string d.name) (hz : a.eval z = .agg #[])
    (hK : ∀ w', SetAt m (n + 1) (c + if Has L d.name then 0 else 1) (L ++ [d]) w' → w.grownBy w' (some m) → wpList Try.prog ops Q rest (a.put o.dst undef) w') : wpList Try.prog ops Q (o :: rest) a w := by
  refine wpList_plain hgd fun K' hK' => ?_
  obtain ⟨w', hrun, r1, r2⟩ := h.put hn d hs
  unfold Oper.wp
  simp [execOp, hop, hx, hy, hz, hrun, Result.andThen]
  exact hK' _ _ (hK w' r1 r2)
theorem below_grown {B : Nat} {w a b : World} {m : Nat} (h : Below B w a) (hB : B ≤ w.heap.size) (g : a.grownBy b (some m)) (hm : B ≤ m) : Below B w b :=
  h.trans ⟨g.os, g.tape, g.output, g.size, fun k hk => g.block k (by have := h.size; omega) fun e => by injection e with e; omega⟩
set_option maxHeartbeats 4000000 in
theorem repeated_any (l : List Den) (hl : l.length ≤ 100000) (hf : fitD l) (v : Value) (w : World) (hv : DensIn v l w) :
    Calls Try.prog 38 #[v] w fun e w' => e = .returned (.bool (!decide (Apart l))) ∧ Below w.heap.size w w' := by
  obtain ⟨ad, cap, rfl, h1, h2, h3, -⟩ := densIn_cells hv
  have hmm := @run_makeMap Try.prog
  have HR : Hid ((!decide (Apart l)) = decide (dcnt l l.length < l.length)) := Lib.hid (by
    have h := dcnt_full l l.length (Nat.le_refl _)
    rw [List.take_length] at h
    have := dcnt_le l l.length
    rw [Bool.eq_iff_iff]; simp only [Bool.not_eq_true', decide_eq_false_iff_not, decide_eq_true_eq, ← h]; omega)
  rw [HR.out]
  have HT : Hid (∀ k, k < l.length → l.take (k + 1) = l.take k ++ [dat l k]) := Lib.hid fun k hk => by rw [List.take_succ_eq_append_getElem hk, dat_eq hk]
  have HC : Hid (∀ k, dcnt l (k + 1) = dcnt l k + if Has (l.take k) (dat l k).name then 0 else 1) := Lib.hid fun k => rfl
  have HF : Hid (∀ k, k < l.length → (dat l k).name.size ≤ maxLen) := Lib.hid fun k hk => by have := (hf _ (dat_mem hk)).1; unfold maxLen; omega
  have HLE := Lib.hid (dcnt_le l)
  have HM0 : Hid (SetAt w.heap.size 0 (dcnt l 0) (l.take 0) (w.alloc (.map #[] 0))) := Lib.hid (SetAt.made w)
  clear HR hv
  obtain ⟨T, hT⟩ : ∃ T : Nat → List Den, T = fun k => l.take k := ⟨_, rfl⟩
  have hT2 : ∀ k, l.take k = T k := fun k => by rw [hT]
  simp only [hT2] at HT HC HM0
  clear hT hT2
  obtain ⟨C, hC⟩ : ∃ C : Nat → Nat, C = dcnt l := ⟨_, rfl⟩
  rw [← hC] at HC HLE HM0 ⊢
  obtain ⟨D, hD⟩ : ∃ D : Nat → Den, D = dat l := ⟨_, rfl⟩
  rw [← hD] at HT HC HF h3
  clear hC hD hf
  generalize l.length = n at *
  go_enter Try.func38, Try.ntmps38
  go_wp2
  go_loopw [9] (fun q wr => ∃ k : Nat, q = .int .i64 k ∧ k ≤ n ∧ Hid (SetAt w.heap.size k (C k) (T k) wr) ∧ Below w.heap.size w wr) (fun q _ => n - (intOf q).toNat)
  case atStart => exact ⟨0, rfl, Nat.zero_le _, HM0, balloc1 _ _⟩
  case round =>
    obtain ⟨k, rfl, hk, hM, hb⟩ := hrel
    by_cases hlt : k < n
    · obtain ⟨g, o, rfl, hg, hc⟩ := h3 (by omega)
      obtain ⟨c1, c2⟩ := hc wr hb k hlt
      have hfk := HF.out k hlt
      have HTk := Lib.hid (HT.out k hlt)
      have HCk := Lib.hid (HC.out k)
      have hbs := hb.size
      obtain ⟨d, hd⟩ : ∃ d, D k = d := ⟨_, rfl⟩
      rw [hd] at c1 c2 hfk HTk HCk
      have HM2 : Hid (SetAt w.heap.size k (C k) (T k) (wr.alloc (.cells #[.string d.name, .int .i64 d.ino] 25))) := Lib.hid (hM.out.same (heap_alloc_old _ _ hM.out.lt))
      have hbq := balloc hb (.cells #[.string d.name, .int .i64 d.ino] 25)
      clear h3 hc hd hM
      go_wp2_with (at_mapUpdate; refine wpList_setPut rfl _ _ _ rfl HM2.out (by omega) d hfk rfl rfl rfl ?_; intro w5 hs5 hg5)
      have HS5 : Hid (SetAt w.heap.size (k + 1) (C (k + 1)) (T (k + 1)) w5) := Lib.hid (by rw [HCk.out, HTk.out]; exact hs5)
      have hb5 := below_grown hbq (Nat.le_refl _) hg5 (Nat.le_refl _)
      clear hs5 hg5 HM2 HCk HTk hbq
      go_wp2
      exact ⟨⟨k + 1, by go_num, by omega, HS5, hb5⟩, by simp [intOf]; omega⟩
    · obtain rfl : k = n := by omega
      have hln := fun ty => hM.out.len ty
      go_wp2
      go_ret
      exact ⟨ret_bool (by first | rfl | (rw [Bool.eq_iff_iff]; simp)), hb⟩
end Go.Proofs.Ytogdogadejjmeaa
