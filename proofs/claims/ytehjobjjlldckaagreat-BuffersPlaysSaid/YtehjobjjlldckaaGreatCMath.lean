/- A cache of blocks over a device, in the chapter's words: buffers in the order of their last use, the least recent first; what is seen of a block, what is pinned, what a Sync leaves, which are the last. Without the program. -/
import Derived.Test.YtehjobjjlldckaaGreatDSt
namespace Go.Proofs.YtehjobjjlldckaaGreat
set_option linter.unusedVariables false
/-! ### buffers -/
structure Buf where
  b : Nat
  data : ByteArray
  dirty : Bool
  pin : Bool
def atB (L : List Buf) (b : Int) : Option Buf := L.find? fun x => (x.b : Int) == b
def dropB (L : List Buf) (b : Int) : List Buf := L.filter fun x => (x.b : Int) != b
def setB (L : List Buf) (b : Int) (f : Buf → Buf) : List Buf := L.map fun x => if (x.b : Int) = b then f x else x
def freeB (L : List Buf) : Option Buf := L.find? fun x => !x.pin
def unlike (L : List Buf) : Prop := (L.map Buf.b).Nodup
theorem atB_nil (b : Int) : atB [] b = none := rfl
theorem atB_cons (x : Buf) (L : List Buf) (b : Int) : atB (x :: L) b = if (x.b : Int) = b then some x else atB L b := by
  unfold atB
  rw [List.find?_cons]
  by_cases h : (x.b : Int) = b
  · rw [if_pos h, beq_iff_eq.2 h]
  · rw [if_neg h, beq_eq_false_iff_ne.2 h]
theorem atB_some {L : List Buf} {b : Int} {x : Buf} (h : atB L b = some x) : x ∈ L ∧ (x.b : Int) = b :=
  ⟨List.mem_of_find?_eq_some h, by have := List.find?_some h; exact beq_iff_eq.1 this⟩
theorem atB_none {L : List Buf} {b : Int} (h : atB L b = none) : ∀ x ∈ L, (x.b : Int) ≠ b := fun x hx e => by
  have := List.find?_eq_none.1 h x hx
  exact this (beq_iff_eq.2 e)
theorem atB_mem {L : List Buf} (hu : unlike L) {x : Buf} (h : x ∈ L) : atB L x.b = some x := by
  induction L with
  | nil => cases h
  | cons y L ih =>
    rw [atB_cons]
    unfold unlike at hu
    rw [List.map_cons, List.nodup_cons] at hu
    rcases List.mem_cons.1 h with rfl | h
    · rw [if_pos rfl]
    · have : y.b ≠ x.b := fun e => hu.1 (by rw [e]; exact List.mem_map_of_mem h)
      rw [if_neg (by omega)]
      exact ih hu.2 h
theorem atB_drop (L : List Buf) (b k : Int) : atB (dropB L b) k = if k = b then none else atB L k := by
  induction L with
  | nil => unfold dropB; rw [List.filter_nil, atB_nil]; split <;> rfl
  | cons y L ih =>
    have e : dropB (y :: L) b = if (y.b : Int) = b then dropB L b else y :: dropB L b := by
      unfold dropB
      rw [List.filter_cons]
      by_cases h : (y.b : Int) = b
      · rw [if_pos h, if_neg (by rw [bne_iff_ne]; exact fun h2 => h2 h)]
      · rw [if_neg h, if_pos (by rw [bne_iff_ne]; exact h)]
    rw [e, atB_cons]
    by_cases h : (y.b : Int) = b
    · rw [if_pos h, ih]
      by_cases h2 : k = b
      · rw [if_pos h2, if_pos h2]
      · rw [if_neg h2, if_neg h2, if_neg (by omega)]
    · rw [if_neg h, atB_cons, ih]
      by_cases h2 : k = b
      · rw [if_pos h2, if_pos h2, if_neg (by omega)]
      · rw [if_neg h2, if_neg h2]
theorem atB_snoc (L : List Buf) (x : Buf) (k : Int) : atB (L ++ [x]) k = match atB L k with | some y => some y | none => if (x.b : Int) = k then some x else none := by
  induction L with
  | nil => rw [List.nil_append, atB_cons, atB_nil]
  | cons y L ih =>
    rw [List.cons_append, atB_cons, atB_cons, ih]
    split <;> rfl
theorem atB_set (L : List Buf) (b : Int) (f : Buf → Buf) (hf : ∀ x, (f x).b = x.b) (k : Int) : atB (setB L b f) k = if k = b then (atB L k).map f else atB L k := by
  induction L with
  | nil => show atB [] k = _; rw [atB_nil]; split <;> rfl
  | cons y L ih =>
    have e : setB (y :: L) b f = (if (y.b : Int) = b then f y else y) :: setB L b f := rfl
    rw [e, atB_cons, atB_cons, ih]
    by_cases h : (y.b : Int) = b
    · rw [if_pos h, hf]
      by_cases h2 : (y.b : Int) = k
      · rw [if_pos h2, if_pos h2, if_pos (by omega)]; rfl
      · rw [if_neg h2, if_neg h2]
    · rw [if_neg h]
      by_cases h2 : (y.b : Int) = k
      · rw [if_pos h2, if_pos h2, if_neg (by omega)]
      · rw [if_neg h2, if_neg h2]
theorem dropB_mem {L : List Buf} {b : Int} {x : Buf} : x ∈ dropB L b ↔ x ∈ L ∧ (x.b : Int) ≠ b := by
  unfold dropB; rw [List.mem_filter, bne_iff_ne]
theorem dropB_unlike {L : List Buf} (h : unlike L) (b : Int) : unlike (dropB L b) := by
  unfold unlike at *
  exact List.Nodup.sublist (List.Sublist.map _ List.filter_sublist) h
theorem snoc_unlike {L : List Buf} (h : unlike L) {x : Buf} (hx : ∀ y ∈ L, y.b ≠ x.b) : unlike (L ++ [x]) := by
  unfold unlike at *
  rw [List.map_append, List.nodup_append]
  refine ⟨h, by simp, fun a ha c hc => ?_⟩
  obtain ⟨y, hy, rfl⟩ := List.mem_map.1 ha
  simp only [List.map_cons, List.map_nil, List.mem_singleton] at hc
  subst hc
  exact hx y hy
theorem setB_b (L : List Buf) (b : Int) (f : Buf → Buf) (hf : ∀ x, (f x).b = x.b) : (setB L b f).map Buf.b = L.map Buf.b := by
  unfold setB
  rw [List.map_map]
  refine List.map_congr_left fun x _ => ?_
  show (if (x.b : Int) = b then f x else x).b = x.b
  split
  · exact hf x
  · rfl
theorem setB_mem {L : List Buf} {b : Int} {f : Buf → Buf} {y : Buf} (h : y ∈ setB L b f) : ∃ x ∈ L, y = if (x.b : Int) = b then f x else x := by
  obtain ⟨x, hx, rfl⟩ := List.mem_map.1 h
  exact ⟨x, hx, rfl⟩
theorem dropB_none {L : List Buf} {b : Int} (h : ∀ x ∈ L, (x.b : Int) ≠ b) : dropB L b = L := by
  unfold dropB
  exact List.filter_eq_self.2 fun x hx => by rw [bne_iff_ne]; exact h x hx
theorem mem_b {z : Buf} {L : List Buf} {k : Nat} (hz : z ∈ L) (e : (z.b : Int) = (k : Int)) : k ∈ L.map Buf.b := by
  have e : z.b = k := by omega
  rw [← e]; exact List.mem_map_of_mem hz
theorem dropB_length {L : List Buf} (hu : unlike L) {x : Buf} (h : x ∈ L) : (dropB L x.b).length + 1 = L.length := by
  induction L with
  | nil => cases h
  | cons y L ih =>
    unfold unlike at hu
    rw [List.map_cons, List.nodup_cons] at hu
    rcases List.mem_cons.1 h with rfl | h
    · have hn : dropB L x.b = L := dropB_none fun z hz e => hu.1 (mem_b hz e)
      have e : dropB (x :: L) x.b = dropB L x.b := by
        unfold dropB
        rw [List.filter_cons, if_neg (by rw [bne_iff_ne]; exact fun h2 => h2 rfl)]
      rw [e, hn]; rfl
    · have hy : y.b ≠ x.b := fun e => hu.1 (by rw [e]; exact List.mem_map_of_mem h)
      have e : dropB (y :: L) x.b = y :: dropB L x.b := by
        unfold dropB
        rw [List.filter_cons, if_pos (by rw [bne_iff_ne]; omega)]
      rw [e, List.length_cons, List.length_cons, ih hu.2 h]
/-- where it lies, in parts -/
theorem dropB_parts {L1 L2 : List Buf} {x : Buf} (hu : unlike (L1 ++ x :: L2)) : dropB (L1 ++ x :: L2) x.b = L1 ++ L2 := by
  unfold unlike at hu
  rw [List.map_append, List.map_cons, List.nodup_append, List.nodup_cons] at hu
  obtain ⟨h1, ⟨h2, h3⟩, h4⟩ := hu
  have e1 : dropB L1 x.b = L1 := dropB_none fun z hz e => h4 z.b (List.mem_map_of_mem hz) x.b List.mem_cons_self (by omega)
  have e2 : dropB L2 x.b = L2 := dropB_none fun z hz e => h2 (mem_b hz e)
  have e : dropB (L1 ++ x :: L2) x.b = dropB L1 x.b ++ dropB L2 x.b := by
    unfold dropB
    rw [List.filter_append, List.filter_cons, if_neg (by rw [bne_iff_ne]; exact fun h2 => h2 rfl)]
  rw [e, e1, e2]
theorem dropB_erase {L : List Buf} (hu : unlike L) {i : Nat} {x : Buf} (h : L[i]? = some x) : dropB L x.b = L.take i ++ L.drop (i + 1) := by
  obtain ⟨hi, rfl⟩ := List.getElem?_eq_some_iff.1 h
  have e : L = L.take i ++ L[i] :: L.drop (i + 1) := by
    rw [← List.drop_eq_getElem_cons hi, List.take_append_drop]
  have hu2 := hu
  rw [e] at hu2
  have := dropB_parts hu2
  rwa [← e] at this
def offPin (x : Buf) : Buf := { x with pin := false }
def offDirty (x : Buf) : Buf := { x with dirty := false }
/-! ### a cache over a device -/
structure CS where
  st : St
  most : Nat
  L : List Buf
structure CS.ok (C : CS) : Prop where
  st : C.st.ok
  lo : 1 ≤ C.most
  hi : C.most ≤ 256
  len : C.L.length ≤ C.most
  blk : ∀ x ∈ C.L, x.b < C.st.n
  size : ∀ x ∈ C.L, x.data.size = 128
  un : unlike C.L
def roomC (C : CS) : Int × CS :=
  if C.L.length < C.most then (0, C) else
  match freeB C.L with
  | none => (70, C)
  | some x =>
    if x.dirty = true then
      if wCode C.st x.b x.data.size = 0 then (0, { C with st := wSt C.st x.b x.data, L := dropB C.L x.b }) else (wCode C.st x.b x.data.size, C)
    else (0, { C with L := dropB C.L x.b })
def getC (C : CS) (b : Int) : ByteArray × Int × CS :=
  if 0 ≤ b ∧ b < (C.st.n : Int) then
    match atB C.L b with
    | some x => (x.data, 0, { C with L := dropB C.L b ++ [x] })
    | none =>
      if (roomC C).1 = 0 then ((roomC C).2.st.now b.toNat, 0, { (roomC C).2 with L := (roomC C).2.L ++ [⟨b.toNat, (roomC C).2.st.now b.toNat, false, false⟩] })
      else (⟨#[]⟩, (roomC C).1, C)
  else (⟨#[]⟩, 60, C)
def putC (C : CS) (b : Int) (s : ByteArray) (pin : Bool) : Int × CS :=
  if 0 ≤ b ∧ b < (C.st.n : Int) then
    if s.size = 128 then
      match atB C.L b with
      | some x => (0, { C with L := dropB C.L b ++ [⟨b.toNat, s, true, pin || x.pin⟩] })
      | none =>
        if (roomC C).1 = 0 then (0, { (roomC C).2 with L := (roomC C).2.L ++ [⟨b.toNat, s, true, pin⟩] })
        else ((roomC C).1, C)
    else (2, C)
  else (60, C)
def unpinC (C : CS) (b : Int) : CS := { C with L := setB C.L b offPin }
def forgetC (C : CS) (b : Int) : CS := { C with L := dropB C.L b }
def outC (C : CS) (b : Int) : Int × CS :=
  match atB C.L b with
  | some x =>
    if x.dirty = true ∧ x.pin = false then
      if wCode C.st b x.data.size = 0 then (0, { C with st := wSt C.st b x.data, L := setB C.L b offDirty })
      else (wCode C.st b x.data.size, C)
    else (0, C)
  | none => (0, C)
def syncTo (C : CS) : Nat → Int × CS
  | 0 => (0, C)
  | k + 1 => if (syncTo C k).1 = 0 then outC (syncTo C k).2 k else syncTo C k
def syncC (C : CS) : Int × CS := syncTo C C.st.n
def hasB (C : CS) (d p : Bool) (b : Nat) : Bool :=
  match atB C.L b with
  | some x => (!d || x.dirty) && (!p || x.pin)
  | none => false
def listB (C : CS) (d p : Bool) : List Nat := pendL (hasB C d p) C.st.n
/-- the device's part is another one -/
def CS.on (C : CS) (S : St) : CS := { C with st := S }
theorem on_ok {C : CS} (h : C.ok) {S : St} (hs : S.ok) (hn : S.n = C.st.n) : (C.on S).ok :=
  ⟨hs, h.lo, h.hi, h.len, fun x hx => by show x.b < S.n; rw [hn]; exact h.blk x hx, h.size, h.un⟩
theorem wSt_same {S : St} {b : Int} {d : ByteArray} (h : wCode S b d.size ≠ 0) : wSt S b d = S := by unfold wSt; rw [if_neg h]
theorem wSt_new {S : St} {b : Int} {d : ByteArray} (h : wCode S b d.size = 0) : wSt S b d = S.wrote b.toNat d := by unfold wSt; rw [if_pos h]
/-- room, case by case -/
theorem room_cases {C : CS} (h : C.ok) :
    (C.L.length < C.most ∧ roomC C = (0, C)) ∨ ((roomC C).1 ≠ 0 ∧ (roomC C).2 = C ∧ C.L.length = C.most) ∨
    ∃ x, x ∈ C.L ∧ x.pin = false ∧ freeB C.L = some x ∧ C.L.length = C.most ∧
      ((x.dirty = false ∧ roomC C = (0, { C with L := dropB C.L x.b })) ∨
       (x.dirty = true ∧ C.st.left ≠ 0 ∧ roomC C = (0, { C with st := C.st.wrote x.b x.data, L := dropB C.L x.b }))) := by
  have hl := h.len
  unfold roomC
  by_cases h1 : C.L.length < C.most
  · exact .inl ⟨h1, by rw [if_pos h1]⟩
  · rw [if_neg h1]
    cases hf : freeB C.L with
    | none => exact .inr (.inl ⟨(show (70 : Int) ≠ 0 by decide), rfl, by omega⟩)
    | some x =>
      have hx := List.mem_of_find?_eq_some hf
      have hp : x.pin = false := by have := List.find?_some hf; simpa using this
      by_cases hd : x.dirty = true
      · by_cases hw : wCode C.st x.b x.data.size = 0
        · refine .inr (.inr ⟨x, hx, hp, rfl, by omega, .inr ⟨hd, (wCode_yes hw).2.2.2, ?_⟩⟩)
          show (if x.dirty = true then _ else _) = _
          rw [if_pos hd, if_pos hw, wSt_new hw]; rfl
        · refine .inr (.inl ?_)
          show (if x.dirty = true then _ else _ : Int × CS).1 ≠ 0 ∧ (if x.dirty = true then _ else _ : Int × CS).2 = C ∧ _
          rw [if_pos hd, if_neg hw]
          exact ⟨hw, rfl, by omega⟩
      · refine .inr (.inr ⟨x, hx, hp, rfl, by omega, .inl ⟨by simpa using hd, ?_⟩⟩)
        show (if x.dirty = true then _ else _) = _
        rw [if_neg hd]
/-- what room leaves -/
theorem room_ok {C : CS} (h : C.ok) : (roomC C).2.ok ∧ (roomC C).2.st.n = C.st.n ∧ (roomC C).2.most = C.most ∧ ((roomC C).1 = 0 → (roomC C).2.L.length < C.most) ∧ (∀ y ∈ (roomC C).2.L, y ∈ C.L) ∧ ((roomC C).1 ≠ 0 → (roomC C).2 = C) ∧ (roomC C).2.st.acts ≤ C.st.acts + 1 := by
  rcases room_cases h with ⟨h1, e⟩ | ⟨h1, h2, h3⟩ | ⟨x, hx, hp, hf, hl, ⟨hd, e⟩ | ⟨hd, hw, e⟩⟩
  · rw [e]; exact ⟨h, rfl, rfl, fun _ => h1, fun y hy => hy, fun h0 => absurd rfl h0, Nat.le_succ _⟩
  · rw [h2]; exact ⟨h, rfl, rfl, fun h0 => absurd h0 h1, fun y hy => hy, fun _ => rfl, Nat.le_succ _⟩
  · rw [e]
    have hl2 := dropB_length h.un hx
    have hm := h.len
    refine ⟨⟨h.st, h.lo, h.hi, by show (dropB C.L x.b).length ≤ C.most; omega, fun y hy => h.blk y (dropB_mem.1 hy).1, fun y hy => h.size y (dropB_mem.1 hy).1, dropB_unlike h.un _⟩, rfl, rfl, fun _ => by show (dropB C.L x.b).length < C.most; omega, fun y hy => (dropB_mem.1 hy).1, fun h0 => absurd rfl h0, Nat.le_succ _⟩
  · rw [e]
    have hl2 := dropB_length h.un hx
    have hm := h.len
    refine ⟨⟨wrote_ok h.st (h.blk x hx) (h.size x hx), h.lo, h.hi, by show (dropB C.L x.b).length ≤ C.most; omega, fun y hy => h.blk y (dropB_mem.1 hy).1, fun y hy => h.size y (dropB_mem.1 hy).1, dropB_unlike h.un _⟩, rfl, rfl, fun _ => by show (dropB C.L x.b).length < C.most; omega, fun y hy => (dropB_mem.1 hy).1, fun h0 => absurd rfl h0, Nat.le_refl _⟩
theorem dropB_sub {L : List Buf} {b : Int} {k : Nat} (hu : unlike L) {x : Buf} (h : atB L b = some x) (hl : L.length ≤ k) : (dropB L b).length < k := by
  obtain ⟨h1, rfl⟩ := atB_some h
  have := dropB_length hu h1
  omega
/-- a buffer is laid in behind -/
theorem snoc_ok {C : CS} (h : C.ok) {x : Buf} (hl : C.L.length < C.most) (hb : x.b < C.st.n) (hz : x.data.size = 128) (hx : ∀ y ∈ C.L, y.b ≠ x.b) : CS.ok { C with L := C.L ++ [x] } :=
  ⟨h.st, h.lo, h.hi, by show (C.L ++ [x]).length ≤ C.most; rw [List.length_append]; show C.L.length + 1 ≤ _; omega, fun y hy => by
    rcases List.mem_append.1 hy with hy | hy
    · exact h.blk y hy
    · obtain rfl := List.mem_singleton.1 hy; exact hb, fun y hy => by
    rcases List.mem_append.1 hy with hy | hy
    · exact h.size y hy
    · obtain rfl := List.mem_singleton.1 hy; exact hz, snoc_unlike h.un hx⟩
theorem drop_ok {C : CS} (h : C.ok) (b : Int) : CS.ok { C with L := dropB C.L b } :=
  ⟨h.st, h.lo, h.hi, Nat.le_trans (List.length_filter_le _ _) h.len, fun y hy => h.blk y (dropB_mem.1 hy).1, fun y hy => h.size y (dropB_mem.1 hy).1, dropB_unlike h.un _⟩
theorem set_ok {C : CS} (h : C.ok) (b : Int) (f : Buf → Buf) (hf : ∀ x, (f x).b = x.b ∧ (f x).data = x.data) : CS.ok { C with L := setB C.L b f } :=
  ⟨h.st, h.lo, h.hi, by show (List.map _ _).length ≤ _; rw [List.length_map]; exact h.len, fun y hy => by
    obtain ⟨x, hx, rfl⟩ := setB_mem hy
    split
    · rw [(hf x).1]; exact h.blk x hx
    · exact h.blk x hx, fun y hy => by
    obtain ⟨x, hx, rfl⟩ := setB_mem hy
    split
    · rw [(hf x).2]; exact h.size x hx
    · exact h.size x hx, by unfold unlike; show (List.map Buf.b (setB C.L b f)).Nodup; rw [setB_b _ _ _ fun x => (hf x).1]; exact h.un⟩
theorem get_ok {C : CS} (h : C.ok) (b : Int) : (getC C b).2.2.ok ∧ (getC C b).2.2.st.n = C.st.n ∧ (getC C b).2.2.most = C.most ∧ (getC C b).2.2.st.acts ≤ C.st.acts + 1 := by
  unfold getC
  split
  · rename_i hb
    cases ha : atB C.L b with
    | some x =>
      obtain ⟨h1, h2⟩ := atB_some ha
      exact ⟨snoc_ok (drop_ok h b) (dropB_sub h.un ha h.len) (h.blk x h1) (h.size x h1) fun y hy => by have := (dropB_mem.1 hy).2; omega, rfl, rfl, Nat.le_succ _⟩
    | none =>
      obtain ⟨r1, r2, r3, r4, r5, r6, r7⟩ := room_ok h
      show (if _ then _ else _ : ByteArray × Int × CS).2.2.ok ∧ (if _ then _ else _ : ByteArray × Int × CS).2.2.st.n = _ ∧ (if _ then _ else _ : ByteArray × Int × CS).2.2.most = _ ∧ (if _ then _ else _ : ByteArray × Int × CS).2.2.st.acts ≤ _
      split
      · rename_i h0
        refine ⟨snoc_ok r1 (by have := r4 h0; omega) (by show b.toNat < _; omega) (r1.st.now _ (by omega)) fun y hy e => ?_, r2, r3, r7⟩
        have := atB_none ha y (r5 y hy)
        have e : y.b = b.toNat := e
        omega
      · exact ⟨h, rfl, rfl, Nat.le_succ _⟩
  · exact ⟨h, rfl, rfl, Nat.le_succ _⟩
theorem put_ok {C : CS} (h : C.ok) (b : Int) (s : ByteArray) (pin : Bool) : (putC C b s pin).2.ok ∧ (putC C b s pin).2.st.n = C.st.n ∧ (putC C b s pin).2.most = C.most ∧ (putC C b s pin).2.st.acts ≤ C.st.acts + 1 := by
  unfold putC
  split
  · rename_i hb
    split
    · rename_i hz
      cases ha : atB C.L b with
      | some x =>
        obtain ⟨h1, h2⟩ := atB_some ha
        exact ⟨snoc_ok (drop_ok h b) (dropB_sub h.un ha h.len) (by show b.toNat < C.st.n; omega) hz fun y hy => by have := (dropB_mem.1 hy).2; show y.b ≠ b.toNat; omega, rfl, rfl, Nat.le_succ _⟩
      | none =>
        obtain ⟨r1, r2, r3, r4, r5, r6, r7⟩ := room_ok h
        show (if _ then _ else _ : Int × CS).2.ok ∧ (if _ then _ else _ : Int × CS).2.st.n = _ ∧ (if _ then _ else _ : Int × CS).2.most = _ ∧ (if _ then _ else _ : Int × CS).2.st.acts ≤ _
        split
        · rename_i h0
          refine ⟨snoc_ok r1 (by have := r4 h0; omega) (by show b.toNat < _; omega) hz fun y hy e => ?_, r2, r3, r7⟩
          have := atB_none ha y (r5 y hy)
          have e : y.b = b.toNat := e
          omega
        · exact ⟨h, rfl, rfl, Nat.le_succ _⟩
    · exact ⟨h, rfl, rfl, Nat.le_succ _⟩
  · exact ⟨h, rfl, rfl, Nat.le_succ _⟩
theorem out_ok {C : CS} (h : C.ok) (b : Int) : (outC C b).2.ok ∧ (outC C b).2.st.n = C.st.n ∧ (outC C b).2.most = C.most ∧ (outC C b).2.st.acts ≤ C.st.acts + 1 := by
  unfold outC
  cases ha : atB C.L b with
  | some x =>
    show (if _ then _ else _ : Int × CS).2.ok ∧ (if _ then _ else _ : Int × CS).2.st.n = _ ∧ (if _ then _ else _ : Int × CS).2.most = _ ∧ (if _ then _ else _ : Int × CS).2.st.acts ≤ _
    split
    · split
      · exact ⟨on_ok (set_ok h b offDirty fun x => ⟨rfl, rfl⟩) (wSt_ok h.st _ _) (wSt_n _ _ _), wSt_n _ _ _, rfl, wSt_acts _ _ _⟩
      · exact ⟨h, rfl, rfl, Nat.le_succ _⟩
    · exact ⟨h, rfl, rfl, Nat.le_succ _⟩
  | none => exact ⟨h, rfl, rfl, Nat.le_succ _⟩
theorem sync_ok {C : CS} (h : C.ok) : ∀ k, (syncTo C k).2.ok ∧ (syncTo C k).2.st.n = C.st.n ∧ (syncTo C k).2.most = C.most ∧ (syncTo C k).2.st.acts ≤ C.st.acts + k
  | 0 => ⟨h, rfl, rfl, Nat.le_refl _⟩
  | k + 1 => by
    obtain ⟨h1, h2, h3, h4⟩ := sync_ok h k
    unfold syncTo
    split
    · obtain ⟨g1, g2, g3, g4⟩ := out_ok h1 k
      exact ⟨g1, by rw [g2, h2], by rw [g3, h3], by omega⟩
    · exact ⟨h1, h2, h3, by omega⟩
theorem unpin_ok {C : CS} (h : C.ok) (b : Int) : (unpinC C b).ok := set_ok h b _ fun x => ⟨rfl, rfl⟩
theorem forget_ok {C : CS} (h : C.ok) (b : Int) : (forgetC C b).ok := drop_ok h b
/-! ### what is seen of a block -/
def view (C : CS) (b : Nat) : ByteArray := match atB C.L b with | some x => x.data | none => C.st.now b
/-- what is not dirty is what stands on the device -/
def clean (C : CS) : Prop := ∀ x ∈ C.L, x.dirty = false → x.data = C.st.now x.b
theorem view_some {C : CS} {b : Nat} {x : Buf} (h : atB C.L b = some x) : view C b = x.data := by unfold view; rw [h]
theorem view_none {C : CS} {b : Nat} (h : atB C.L b = none) : view C b = C.st.now b := by unfold view; rw [h]
theorem wrote_now (S : St) (b : Nat) (d : ByteArray) (k : Nat) : (S.wrote b d).now k = if k = b then d else S.now k := rfl
theorem room_view {C : CS} (h : C.ok) (hc : clean C) : clean (roomC C).2 ∧ ∀ k, view (roomC C).2 k = view C k := by
  rcases room_cases h with ⟨h1, e⟩ | ⟨h1, h2, h3⟩ | ⟨x, hx, hp, hf, hl, ⟨hd, e⟩ | ⟨hd, hw, e⟩⟩
  · rw [e]; exact ⟨hc, fun _ => rfl⟩
  · rw [h2]; exact ⟨hc, fun _ => rfl⟩
  · rw [e]
    refine ⟨fun y hy => hc y (dropB_mem.1 hy).1, fun k => ?_⟩
    have := atB_drop C.L x.b k
    by_cases hk : (k : Int) = x.b
    · rw [if_pos hk] at this
      have hk2 : k = x.b := by omega
      rw [view_none (C := { C with L := dropB C.L x.b }) this, hk2, view_some (atB_mem h.un hx), hc x hx hd]
    · rw [if_neg hk] at this
      unfold view
      show (match atB (dropB C.L x.b) k with | some x => x.data | none => C.st.now k) = _
      rw [this]
  · rw [e]
    refine ⟨fun y hy hyd => ?_, fun k => ?_⟩
    · obtain ⟨h1, h2⟩ := dropB_mem.1 hy
      show y.data = (C.st.wrote x.b x.data).now y.b
      rw [wrote_now, if_neg (by omega)]
      exact hc y h1 hyd
    · have := atB_drop C.L x.b k
      by_cases hk : (k : Int) = x.b
      · rw [if_pos hk] at this
        have hk2 : k = x.b := by omega
        rw [view_none (C := { C with st := C.st.wrote x.b x.data, L := dropB C.L x.b }) this, hk2, view_some (atB_mem h.un hx)]
        show (C.st.wrote x.b x.data).now x.b = _
        rw [wrote_now, if_pos rfl]
      · rw [if_neg hk] at this
        unfold view
        show (match atB (dropB C.L x.b) k with | some x => x.data | none => (C.st.wrote x.b x.data).now k) = _
        rw [this, wrote_now, if_neg (by omega)]
theorem get_view {C : CS} (h : C.ok) (hc : clean C) (b : Int) :
    clean (getC C b).2.2 ∧ (∀ k, view (getC C b).2.2 k = view C k) ∧ ((getC C b).2.1 = 0 → 0 ≤ b ∧ b < (C.st.n : Int) ∧ (getC C b).1 = view C b.toNat) := by
  unfold getC
  split
  · rename_i hb
    obtain ⟨n, rfl⟩ := Int.eq_ofNat_of_zero_le hb.1
    have hn : ((n : Nat) : Int).toNat = n := rfl
    cases ha : atB C.L ((n : Nat) : Int) with
    | some x =>
      obtain ⟨h1, h2⟩ := atB_some ha
      show clean { C with L := dropB C.L ((n : Nat) : Int) ++ [x] } ∧ (∀ k, view { C with L := dropB C.L ((n : Nat) : Int) ++ [x] } k = view C k) ∧ ((0 : Int) = 0 → 0 ≤ ((n : Nat) : Int) ∧ ((n : Nat) : Int) < (C.st.n : Int) ∧ x.data = view C n)
      refine ⟨fun y hy hyd => ?_, fun k => ?_, fun _ => ⟨hb.1, hb.2, (view_some (b := n) ha).symm⟩⟩
      · rcases List.mem_append.1 hy with hy | hy
        · exact hc y (dropB_mem.1 hy).1 hyd
        · obtain rfl := List.mem_singleton.1 hy; exact hc y h1 hyd
      · have e := atB_snoc (dropB C.L ((n : Nat) : Int)) x k
        rw [atB_drop] at e
        by_cases hk : (k : Int) = ((n : Nat) : Int)
        · rw [if_pos hk, if_pos (by omega)] at e
          obtain rfl : k = n := by have hk : (k : Int) = (n : Int) := hk; omega
          rw [view_some (b := k) (C := { C with L := dropB C.L ((k : Nat) : Int) ++ [x] }) e, view_some (b := k) ha]
        · rw [if_neg hk, if_neg (by omega)] at e
          unfold view
          show (match atB (dropB C.L ((n : Nat) : Int) ++ [x]) k with | some x => x.data | none => C.st.now k) = _
          rw [e]
          cases atB C.L k <;> rfl
    | none =>
      obtain ⟨r1, r2, r3, r4, r5, r6, r7⟩ := room_ok h
      obtain ⟨v1, v2⟩ := room_view h hc
      have hm : ∀ y ∈ (roomC C).2.L, (y.b : Int) ≠ n := fun y hy => atB_none ha y (r5 y hy)
      dsimp only
      split
      · rename_i h0
        have hv : (roomC C).2.st.now n = view C n := by
          rw [← v2 n]
          have : atB (roomC C).2.L n = none := List.find?_eq_none.2 fun y hy => by
            have := hm y hy; simpa using this
          rw [view_none this]
        rw [hn]
        refine ⟨fun y hy hyd => ?_, fun k => ?_, fun _ => ⟨hb.1, hb.2, hv⟩⟩
        · rcases List.mem_append.1 hy with hy | hy
          · exact v1 y hy hyd
          · obtain rfl := List.mem_singleton.1 hy; rfl
        · have e := atB_snoc (roomC C).2.L ⟨n, (roomC C).2.st.now n, false, false⟩ k
          rw [← v2 k]
          unfold view
          show (match atB ((roomC C).2.L ++ [⟨n, (roomC C).2.st.now n, false, false⟩]) k with | some x => x.data | none => (roomC C).2.st.now k) = _
          rw [e]
          cases atB (roomC C).2.L k with
          | some y => rfl
          | none =>
            by_cases hk : (n : Int) = k
            · obtain rfl : n = k := by omega
              dsimp only
              rw [if_pos rfl]
            · dsimp only
              rw [if_neg hk]
      · rename_i h0
        exact ⟨hc, fun _ => rfl, fun h1 => absurd h1 h0⟩
  · exact ⟨hc, fun _ => rfl, fun h1 => absurd h1 (show (60 : Int) ≠ 0 by decide)⟩
theorem put_view {C : CS} (h : C.ok) (hc : clean C) (b : Int) (s : ByteArray) (pin : Bool) :
    clean (putC C b s pin).2 ∧ ((putC C b s pin).1 ≠ 0 → ∀ k, view (putC C b s pin).2 k = view C k) ∧ ((putC C b s pin).1 = 0 → 0 ≤ b ∧ b < (C.st.n : Int) ∧ ∀ k, view (putC C b s pin).2 k = if k = b.toNat then s else view C k) := by
  unfold putC
  split
  · rename_i hb
    obtain ⟨n, rfl⟩ := Int.eq_ofNat_of_zero_le hb.1
    have hn : ((n : Nat) : Int).toNat = n := rfl
    split
    · cases ha : atB C.L ((n : Nat) : Int) with
      | some x =>
        obtain ⟨h1, h2⟩ := atB_some ha
        dsimp only
        refine ⟨fun y hy hyd => ?_, fun h0 => absurd rfl h0, fun _ => ⟨hb.1, hb.2, fun k => ?_⟩⟩
        · rcases List.mem_append.1 hy with hy | hy
          · exact hc y (dropB_mem.1 hy).1 hyd
          · obtain rfl := List.mem_singleton.1 hy; cases hyd
        · have e := atB_snoc (dropB C.L ((n : Nat) : Int)) ⟨n, s, true, pin || x.pin⟩ k
          rw [atB_drop] at e
          rw [hn]
          by_cases hk : k = n
          · subst hk
            rw [if_pos rfl, if_pos rfl] at e
            rw [if_pos rfl, view_some (b := k) (C := { C with L := dropB C.L ((k : Nat) : Int) ++ [⟨k, s, true, pin || x.pin⟩] }) e]
          · have hk2 : ¬ (k : Int) = ((n : Nat) : Int) := fun e => hk (by have e : (k : Int) = (n : Int) := e; omega)
            have hk3 : ¬ ((n : Nat) : Int) = k := by omega
            rw [if_neg hk2, if_neg hk3] at e
            rw [if_neg hk]
            unfold view
            show (match atB (dropB C.L ((n : Nat) : Int) ++ [⟨n, s, true, pin || x.pin⟩]) k with | some x => x.data | none => C.st.now k) = _
            rw [e]
            cases atB C.L k <;> rfl
      | none =>
        obtain ⟨r1, r2, r3, r4, r5, r6, r7⟩ := room_ok h
        obtain ⟨v1, v2⟩ := room_view h hc
        have hm : ∀ y ∈ (roomC C).2.L, (y.b : Int) ≠ n := fun y hy => atB_none ha y (r5 y hy)
        dsimp only
        split
        · rename_i h0
          rw [hn]
          refine ⟨fun y hy hyd => ?_, fun h0 => absurd rfl h0, fun _ => ⟨hb.1, hb.2, fun k => ?_⟩⟩
          · rcases List.mem_append.1 hy with hy | hy
            · exact v1 y hy hyd
            · obtain rfl := List.mem_singleton.1 hy; cases hyd
          · have e := atB_snoc (roomC C).2.L ⟨n, s, true, pin⟩ k
            by_cases hk : k = n
            · subst hk
              have : atB (roomC C).2.L k = none := List.find?_eq_none.2 fun y hy => by
                have := hm y hy; simpa using this
              rw [this] at e
              have e : atB ((roomC C).2.L ++ [⟨k, s, true, pin⟩]) k = if (k : Int) = k then some ⟨k, s, true, pin⟩ else none := e
              rw [if_pos rfl] at e
              rw [if_pos rfl, view_some (C := { (roomC C).2 with L := (roomC C).2.L ++ [⟨k, s, true, pin⟩] }) e]
            · rw [if_neg hk, ← v2 k]
              unfold view
              show (match atB ((roomC C).2.L ++ [⟨n, s, true, pin⟩]) k with | some x => x.data | none => (roomC C).2.st.now k) = _
              rw [e]
              cases atB (roomC C).2.L k with
              | some y => rfl
              | none =>
                dsimp only
                rw [if_neg (by omega)]
        · rename_i h0
          exact ⟨hc, fun _ _ => rfl, fun h1 => absurd h1 h0⟩
    · exact ⟨hc, fun _ _ => rfl, fun h1 => absurd h1 (show (2 : Int) ≠ 0 by decide)⟩
  · exact ⟨hc, fun _ _ => rfl, fun h1 => absurd h1 (show (60 : Int) ≠ 0 by decide)⟩
theorem unpin_view {C : CS} (hc : clean C) (b : Int) : clean (unpinC C b) ∧ ∀ k, view (unpinC C b) k = view C k := by
  refine ⟨fun y hy hyd => ?_, fun k => ?_⟩
  · obtain ⟨x, hx, rfl⟩ := setB_mem hy
    by_cases hb : (x.b : Int) = b
    · rw [if_pos hb] at hyd ⊢; exact hc x hx hyd
    · rw [if_neg hb] at hyd ⊢; exact hc x hx hyd
  · unfold view unpinC
    show (match atB (setB C.L b offPin) k with | some x => x.data | none => C.st.now k) = _
    rw [atB_set _ _ offPin fun x => rfl]
    by_cases hk : (k : Int) = b
    · rw [if_pos hk]
      cases atB C.L k <;> rfl
    · rw [if_neg hk]
theorem forget_clean {C : CS} (hc : clean C) (b : Int) : clean (forgetC C b) := fun y hy => hc y (dropB_mem.1 hy).1
theorem out_view {C : CS} (h : C.ok) (hc : clean C) (b : Int) : clean (outC C b).2 ∧ ∀ k, view (outC C b).2 k = view C k := by
  unfold outC
  cases ha : atB C.L b with
  | some x =>
    dsimp only
    split
    · split
      · rename_i h1 h2
        obtain ⟨hx, rfl⟩ := atB_some ha
        rw [wSt_new h2]
        have hn : Int.toNat (x.b : Int) = x.b := rfl
        rw [hn]
        refine ⟨fun y hy hyd => ?_, fun k => ?_⟩
        · obtain ⟨z, hz, rfl⟩ := setB_mem hy
          show _ = (C.st.wrote x.b x.data).now _
          by_cases hb : (z.b : Int) = x.b
          · have e : z.b = x.b := by omega
            rw [if_pos hb]
            show z.data = (C.st.wrote x.b x.data).now z.b
            rw [wrote_now, if_pos e]
            have := atB_mem h.un hz
            rw [e, ha] at this
            exact congrArg Buf.data (Option.some.inj this).symm
          · rw [if_neg hb] at hyd ⊢
            rw [wrote_now, if_neg (by omega)]
            exact hc z hz hyd
        · unfold view
          show (match atB (setB C.L x.b offDirty) k with | some x => x.data | none => (C.st.wrote x.b x.data).now k) = _
          rw [atB_set _ _ offDirty fun x => rfl]
          by_cases hk : (k : Int) = x.b
          · rw [if_pos hk, hk, ha]; rfl
          · rw [if_neg hk, wrote_now, if_neg (by omega)]
      · exact ⟨hc, fun _ => rfl⟩
    · exact ⟨hc, fun _ => rfl⟩
  | none => exact ⟨hc, fun _ => rfl⟩
theorem sync_view {C : CS} (h : C.ok) (hc : clean C) : ∀ k, clean (syncTo C k).2 ∧ ∀ i, view (syncTo C k).2 i = view C i
  | 0 => ⟨hc, fun _ => rfl⟩
  | k + 1 => by
    obtain ⟨h1, h2⟩ := sync_view h hc k
    unfold syncTo
    split
    · obtain ⟨g1, g2⟩ := out_view (sync_ok h k).1 h1 k
      exact ⟨g1, fun i => by rw [g2, h2]⟩
    · exact ⟨h1, h2⟩
/-! ### what is pinned -/
/-- block a's buffer is pinned and dirty, with this text; on the device stands another -/
def pinned (C : CS) (a : Nat) (s z : ByteArray) : Prop := atB C.L a = some ⟨a, s, true, true⟩ ∧ C.st.now a = z
theorem wSt_now {S : St} {b : Int} {d : ByteArray} {a : Nat} (h : b ≠ a) : (wSt S b d).now a = S.now a := by
  unfold wSt
  split
  · rename_i h0
    have := wCode_yes h0
    rw [wrote_now, if_neg (by omega)]
  · rfl
theorem room_pinned {C : CS} (h : C.ok) {a : Nat} {s z : ByteArray} (hp : pinned C a s z) : pinned (roomC C).2 a s z := by
  rcases room_cases h with ⟨h1, e⟩ | ⟨h1, h2, h3⟩ | ⟨x, hx, hxp, hf, hl, he⟩
  · rw [e]; exact hp
  · rw [h2]; exact hp
  · have hne : (a : Int) ≠ x.b := fun e => by
      have h2 := atB_mem h.un hx
      rw [← e, hp.1] at h2
      rw [← Option.some.inj h2] at hxp
      cases hxp
    have hd : atB (dropB C.L x.b) a = some ⟨a, s, true, true⟩ := by rw [atB_drop, if_neg hne]; exact hp.1
    rcases he with ⟨_, e⟩ | ⟨_, _, e⟩
    · rw [e]; exact ⟨hd, hp.2⟩
    · rw [e]
      refine ⟨hd, ?_⟩
      show (C.st.wrote x.b x.data).now a = z
      rw [wrote_now, if_neg (by omega)]
      exact hp.2
theorem get_pinned {C : CS} (h : C.ok) {a : Nat} {s z : ByteArray} (hp : pinned C a s z) (b : Int) : pinned (getC C b).2.2 a s z := by
  unfold getC
  split
  · rename_i hb
    cases ha : atB C.L b with
    | some x =>
      refine ⟨?_, hp.2⟩
      show atB (dropB C.L b ++ [x]) a = _
      rw [atB_snoc, atB_drop]
      by_cases e : (a : Int) = b
      · rw [if_pos e]
        have h2 := atB_some ha
        subst e
        rw [hp.1] at ha
        dsimp only
        rw [if_pos h2.2]
        exact ha.symm
      · rw [if_neg e, hp.1]
    | none =>
      have hr := room_pinned h hp
      dsimp only
      split
      · refine ⟨?_, hr.2⟩
        show atB ((roomC C).2.L ++ [_]) a = _
        rw [atB_snoc, hr.1]
      · exact hp
  · exact hp
theorem put_pinned {C : CS} (h : C.ok) {a : Nat} {s z : ByteArray} (hp : pinned C a s z) (b : Int) (t : ByteArray) (pin : Bool) :
    (b = a → (putC C b t pin).1 = 0 → pinned (putC C b t pin).2 a t z) ∧ (b ≠ a ∨ (putC C b t pin).1 ≠ 0 → pinned (putC C b t pin).2 a s z) := by
  unfold putC
  split
  · rename_i hb
    split
    · cases ha : atB C.L b with
      | some x =>
        dsimp only
        refine ⟨fun e _ => ⟨?_, hp.2⟩, fun e => ⟨?_, hp.2⟩⟩
        · subst e
          show atB (dropB C.L a ++ [_]) a = _
          rw [atB_snoc, atB_drop]
          rw [hp.1] at ha
          obtain rfl := Option.some.inj ha
          rw [if_pos rfl]
          dsimp only
          rw [if_pos (by omega), Bool.or_true]
          rfl
        · have e : ¬ (a : Int) = b := fun e2 => by
            rcases e with e | e
            · exact e e2.symm
            · exact e rfl
          show atB (dropB C.L b ++ [_]) a = _
          rw [atB_snoc, atB_drop, if_neg e, hp.1]
      | none =>
        have hr := room_pinned h hp
        have e : b ≠ a := fun e => by rw [e, hp.1] at ha; cases ha
        dsimp only
        refine ⟨fun e2 => absurd e2 e, fun _ => ?_⟩
        split
        · refine ⟨?_, hr.2⟩
          show atB ((roomC C).2.L ++ [_]) a = _
          rw [atB_snoc, hr.1]
        · exact hp
    · exact ⟨fun _ h2 => absurd h2 (show (2 : Int) ≠ 0 by decide), fun _ => hp⟩
  · exact ⟨fun _ h2 => absurd h2 (show (60 : Int) ≠ 0 by decide), fun _ => hp⟩
theorem unpin_pinned {C : CS} {a : Nat} {s z : ByteArray} (hp : pinned C a s z) {b : Int} (hb : b ≠ a) : pinned (unpinC C b) a s z := by
  refine ⟨?_, hp.2⟩
  show atB (setB C.L b offPin) a = _
  rw [atB_set _ _ offPin fun x => rfl, if_neg (fun h2 => hb h2.symm)]
  exact hp.1
theorem forget_pinned {C : CS} {a : Nat} {s z : ByteArray} (hp : pinned C a s z) {b : Int} (hb : b ≠ a) : pinned (forgetC C b) a s z := by
  refine ⟨?_, hp.2⟩
  show atB (dropB C.L b) a = _
  rw [atB_drop, if_neg (fun h2 => hb h2.symm)]
  exact hp.1
theorem out_pinned {C : CS} {a : Nat} {s z : ByteArray} (hp : pinned C a s z) (b : Int) : pinned (outC C b).2 a s z := by
  unfold outC
  cases ha : atB C.L b with
  | none => exact hp
  | some x =>
    dsimp only
    split
    · rename_i hd
      have e : b ≠ a := fun e => by
        rw [e, hp.1] at ha
        rw [← Option.some.inj ha] at hd
        cases hd.2
      split
      · refine ⟨?_, ?_⟩
        · show atB (setB C.L b offDirty) a = _
          rw [atB_set _ _ offDirty fun x => rfl, if_neg (fun h2 => e h2.symm)]
          exact hp.1
        · show (wSt C.st b x.data).now a = z
          rw [wSt_now e]
          exact hp.2
      · exact hp
    · exact hp
theorem sync_pinned {C : CS} {a : Nat} {s z : ByteArray} (hp : pinned C a s z) : ∀ k, pinned (syncTo C k).2 a s z
  | 0 => hp
  | k + 1 => by
    have h1 := sync_pinned hp k
    unfold syncTo
    split
    · exact out_pinned h1 k
    · exact h1
/-! ### all are written -/
def wants (C : CS) (b : Nat) : Bool := match atB C.L b with | some x => x.dirty && !x.pin | none => false
theorem wants_some {C : CS} {b : Nat} {x : Buf} (h : atB C.L b = some x) : wants C b = (x.dirty && !x.pin) := by unfold wants; rw [h]
theorem wants_none {C : CS} {b : Nat} (h : atB C.L b = none) : wants C b = false := by unfold wants; rw [h]
def tidy (x : Buf) : Buf := if x.pin then x else offDirty x
theorem left_kept {S : St} (h : S.left = -1) (b : Nat) (d : ByteArray) : (S.wrote b d).left = -1 := by
  show lessOne S.left = -1
  rw [h]; rfl
theorem out_free {C : CS} (h : C.ok) (hl : C.st.left = -1) (b : Nat) :
    (outC C b).1 = 0 ∧ (outC C b).2.st.left = -1 ∧ (outC C b).2.st.acts = C.st.acts + (if wants C b then 1 else 0) ∧
    ∀ k : Nat, atB (outC C b).2.L k = if k = b then (atB C.L k).map tidy else atB C.L k := by
  unfold outC
  cases ha : atB C.L b with
  | none =>
    rw [wants_none ha]
    dsimp only
    refine ⟨rfl, hl, rfl, fun k => ?_⟩
    by_cases e : k = b
    · subst e; rw [ha, if_pos rfl]; rfl
    · rw [if_neg e]
  | some x =>
    obtain ⟨hx, hxb⟩ := atB_some ha
    have hxb : x.b = b := by omega
    have hws := wants_some ha
    dsimp only
    split
    · rename_i hd
      have hw : wCode C.st b x.data.size = 0 := wCode_zero (by omega) (by have := h.blk x hx; omega) (h.size x hx) (by omega)
      rw [if_pos hw, wSt_new hw]
      refine ⟨rfl, left_kept hl _ _, ?_, fun k => ?_⟩
      · rw [hd.1, hd.2] at hws
        rw [hws]; rfl
      · show atB (setB C.L b offDirty) k = _
        rw [atB_set _ _ offDirty fun x => rfl]
        by_cases e : k = b
        · subst e
          rw [if_pos rfl, if_pos rfl, ha]
          show some (offDirty x) = some (tidy x)
          unfold tidy
          rw [hd.2]; rfl
        · rw [if_neg (by omega), if_neg e]
    · rename_i hd
      refine ⟨rfl, hl, ?_, fun k => ?_⟩
      · show C.st.acts = _
        rw [if_neg]; · rfl
        intro h2
        refine hd ?_
        rw [hws, Bool.and_eq_true] at h2
        exact ⟨h2.1, by simpa using h2.2⟩
      · by_cases e : k = b
        · subst e
          rw [if_pos rfl, ha]
          show some x = some (tidy x)
          unfold tidy
          cases hp : x.pin with
          | true => rfl
          | false =>
            have hf : x.dirty = false := by
              cases hq : x.dirty with
              | true => exact absurd ⟨hq, hp⟩ hd
              | false => rfl
            show some x = some (offDirty x)
            unfold offDirty
            obtain ⟨_, _, _, _⟩ := x
            cases hf
            rfl
        · rw [if_neg e]
theorem sync_free {C : CS} (h : C.ok) (hl : C.st.left = -1) : ∀ k,
    (syncTo C k).1 = 0 ∧ (syncTo C k).2.st.left = -1 ∧ (syncTo C k).2.st.acts = C.st.acts + cntT (wants C) k ∧
    ∀ i : Nat, atB (syncTo C k).2.L i = if i < k then (atB C.L i).map tidy else atB C.L i
  | 0 => ⟨rfl, hl, rfl, fun i => by rw [if_neg (by omega)]; rfl⟩
  | k + 1 => by
    obtain ⟨h1, h2, h3, h4⟩ := sync_free h hl k
    obtain ⟨g1, g2, g3, g4⟩ := out_free (sync_ok h k).1 h2 k
    have hw : wants (syncTo C k).2 k = wants C k := by
      unfold wants
      rw [h4 k, if_neg (by omega)]
    unfold syncTo
    rw [if_pos h1]
    refine ⟨g1, g2, by rw [g3, h3, hw, Nat.add_assoc]; rfl, fun i => ?_⟩
    rw [g4 i, h4 i]
    by_cases e : i = k
    · subst e
      rw [if_pos rfl, if_neg (by omega), if_pos (by omega)]
    · rw [if_neg e]
      by_cases e2 : i < k
      · rw [if_pos e2, if_pos (by omega)]
      · rw [if_neg e2, if_neg (by omega)]
/-! ### those that were got last -/
def dropN (o : List Nat) (b : Nat) : List Nat := o.filter fun x => x != b
theorem dropN_none {o : List Nat} {b : Nat} (h : b ∉ o) : dropN o b = o := by
  unfold dropN
  exact List.filter_eq_self.2 fun x hx => by rw [bne_iff_ne]; exact fun e => h (e ▸ hx)
theorem dropN_append (o p : List Nat) (b : Nat) : dropN (o ++ p) b = dropN o b ++ dropN p b := List.filter_append ..
theorem dropN_mem {o : List Nat} {b x : Nat} : x ∈ dropN o b ↔ x ∈ o ∧ x ≠ b := by unfold dropN; rw [List.mem_filter, bne_iff_ne]
theorem dropN_nodup {o : List Nat} (h : o.Nodup) (b : Nat) : (dropN o b).Nodup := List.Nodup.sublist List.filter_sublist h
theorem dropN_length {o : List Nat} (hu : o.Nodup) {b : Nat} (h : b ∈ o) : (dropN o b).length + 1 = o.length := by
  induction o with
  | nil => cases h
  | cons y o ih =>
    rw [List.nodup_cons] at hu
    unfold dropN
    rw [List.filter_cons]
    by_cases e : y = b
    · subst e
      rw [if_neg (by rw [bne_iff_ne]; exact fun h2 => h2 rfl)]
      have := dropN_none hu.1
      unfold dropN at this
      rw [this]; rfl
    · rw [if_pos (by rw [bne_iff_ne]; exact e)]
      have hm : b ∈ o := by
        rcases List.mem_cons.1 h with h | h
        · exact absurd h.symm e
        · exact h
      have := ih hu.2 hm
      unfold dropN at this
      rw [List.length_cons, List.length_cons, this]
theorem map_dropB (L : List Buf) (b : Nat) : (dropB L b).map Buf.b = dropN (L.map Buf.b) b := by
  induction L with
  | nil => rfl
  | cons y L ih =>
    unfold dropB dropN at *
    rw [List.map_cons, List.filter_cons, List.filter_cons]
    by_cases e : y.b = b
    · rw [if_neg (by rw [bne_iff_ne]; omega), if_neg (by rw [bne_iff_ne]; omega), ih]
    · rw [if_pos (by rw [bne_iff_ne]; omega), if_pos (by rw [bne_iff_ne]; omega), List.map_cons, ih]
theorem atB_isSome (L : List Buf) (b : Nat) : (atB L b).isSome = true ↔ b ∈ L.map Buf.b := by
  cases h : atB L b with
  | some x =>
    obtain ⟨h1, h2⟩ := atB_some h
    exact ⟨fun _ => mem_b h1 h2, fun _ => rfl⟩
  | none =>
    refine ⟨fun h => (by cases h), fun hm => ?_⟩
    obtain ⟨x, hx, rfl⟩ := List.mem_map.1 hm
    exact absurd rfl (atB_none h x hx)
theorem has_any (C : CS) (b : Nat) : hasB C false false b = true ↔ b ∈ C.L.map Buf.b := by
  rw [← atB_isSome]
  unfold hasB
  cases atB C.L b <;> simp
structure lastOf (C : CS) (o : List Nat) : Prop where
  row : C.L.map Buf.b = o.drop (o.length - C.most)
  plain : ∀ x ∈ C.L, x.dirty = false ∧ x.pin = false
  un : o.Nodup
theorem last_nil {C : CS} (h : C.L = []) : lastOf C [] := ⟨by rw [h, List.drop_nil]; rfl, fun x hx => (by rw [h] at hx; cases hx), List.nodup_nil⟩
theorem snoc_nodup {o : List Nat} (h : o.Nodup) {b : Nat} (hb : b ∉ o) : (o ++ [b]).Nodup := by
  rw [List.nodup_append]
  refine ⟨h, by simp, fun a ha c hc e => ?_⟩
  obtain rfl := List.mem_singleton.1 hc
  exact hb (e ▸ ha)
theorem get_last {C : CS} (h : C.ok) {o : List Nat} (hl : lastOf C o) {b : Nat} (hb : b < C.st.n) :
    (getC C b).2.1 = 0 ∧ (getC C b).2.2.st = C.st ∧ lastOf (getC C b).2.2 (dropN o b ++ [b]) := by
  have hun : (dropN o b ++ [b]).Nodup := snoc_nodup (dropN_nodup hl.un b) fun hm => (dropN_mem.1 hm).2 rfl
  have hcut : o = o.take (o.length - C.most) ++ C.L.map Buf.b := by rw [hl.row, List.take_append_drop]
  have hlen : (C.L.map Buf.b).length = C.L.length := List.length_map ..
  have hm : (o.take (o.length - C.most)).length = o.length - C.most := by rw [List.length_take]; omega
  have hL : C.L.length = o.length - (o.length - C.most) := by rw [← hlen, hl.row, List.length_drop]
  have hlo := h.lo
  generalize hP : o.take (o.length - C.most) = P at *
  unfold getC
  rw [if_pos ⟨by omega, by omega⟩]
  cases ha : atB C.L b with
  | some x =>
    obtain ⟨h1, h2⟩ := atB_some ha
    dsimp only
    refine ⟨rfl, rfl, ?_, fun y hy => ?_, hun⟩
    · have hbm : b ∈ C.L.map Buf.b := mem_b h1 h2
      have hun2 := hl.un
      rw [hcut, List.nodup_append] at hun2
      have hbP : b ∉ P := fun hm => hun2.2.2 b hm b hbm rfl
      have hz := dropN_length hun2.2.1 hbm
      have e : dropN o b = P ++ dropN (C.L.map Buf.b) b := by
        have := dropN_append P (C.L.map Buf.b) b
        rw [← hcut, dropN_none hbP] at this
        exact this
      show (dropB C.L b ++ [x]).map Buf.b = (dropN o b ++ [b]).drop ((dropN o b ++ [b]).length - C.most)
      rw [List.map_append, map_dropB, e, List.append_assoc]
      have hlen2 : (P ++ (dropN (C.L.map Buf.b) b ++ [b])).length - C.most = P.length := by
        rw [List.length_append, List.length_append]; simp only [List.length_cons, List.length_nil]; omega
      rw [hlen2, List.drop_left]
      have hxb : x.b = b := by omega
      show dropN (C.L.map Buf.b) b ++ [x.b] = _
      rw [hxb]
    · rcases List.mem_append.1 hy with hy | hy
      · exact hl.plain y (dropB_mem.1 hy).1
      · obtain rfl := List.mem_singleton.1 hy; exact hl.plain y h1
  | none =>
    have hbm : b ∉ C.L.map Buf.b := fun hm => by
      have := (atB_isSome C.L b).2 hm
      rw [ha] at this; cases this
    have hroom : (roomC C).1 = 0 ∧ (roomC C).2.st = C.st ∧ (roomC C).2.most = C.most ∧ (∀ x ∈ (roomC C).2.L, x ∈ C.L) ∧
        (if C.L.length < C.most then (roomC C).2.L = C.L else (roomC C).2.L = C.L.tail) := by
      unfold roomC
      by_cases hlt : C.L.length < C.most
      · rw [if_pos hlt]; exact ⟨rfl, rfl, rfl, fun x hx => hx, by rw [if_pos hlt]⟩
      · rw [if_neg hlt]
        obtain ⟨x, L, hcl⟩ : ∃ x L, C.L = x :: L := by
          cases hcl : C.L with
          | nil => exfalso; rw [hcl] at hlt; exact hlt (by simp only [List.length_nil]; omega)
          | cons x L => exact ⟨x, L, rfl⟩
        have hx : x ∈ C.L := by rw [hcl]; exact List.mem_cons_self
        obtain ⟨hd, hp⟩ := hl.plain x hx
        have hf : freeB C.L = some x := by rw [hcl]; unfold freeB; rw [List.find?_cons, hp]; rfl
        have hu := h.un
        rw [hcl] at hu
        have hdr : dropB (x :: L) x.b = L := dropB_parts (L1 := []) hu
        rw [hf]
        dsimp only
        rw [if_neg (by rw [hd]; decide)]
        refine ⟨rfl, rfl, rfl, fun y hy => (dropB_mem.1 hy).1, ?_⟩
        rw [if_neg hlt, hcl]
        exact hdr
    obtain ⟨r1, r2, r3, r4, r5⟩ := hroom
    dsimp only
    rw [if_pos r1]
    refine ⟨rfl, r2, ?_, fun y hy => ?_, hun⟩
    · show ((roomC C).2.L ++ [_]).map Buf.b = (dropN o b ++ [b]).drop ((dropN o b ++ [b]).length - (roomC C).2.most)
      rw [List.map_append, r3]
      show (roomC C).2.L.map Buf.b ++ [b] = _
      by_cases hlt : C.L.length < C.most
      · rw [if_pos hlt] at r5
        rw [r5]
        have hP0 : P = [] := List.length_eq_zero_iff.1 (by omega)
        rw [hP0, List.nil_append] at hcut
        have hz : (dropN o b ++ [b]).length - C.most = 0 := by
          rw [hcut, dropN_none hbm, List.length_append, hlen]; simp only [List.length_cons, List.length_nil]; omega
        rw [hz, List.drop_zero, hcut, dropN_none hbm]
      · rw [if_neg hlt] at r5
        rw [r5]
        by_cases hbo : b ∈ o
        · have hbP : b ∈ P := by
            rw [hcut] at hbo
            rcases List.mem_append.1 hbo with hb | hb
            · exact hb
            · exact absurd hb hbm
          have hun2 := hl.un
          rw [hcut, List.nodup_append] at hun2
          have hz := dropN_length hun2.1 hbP
          have e : dropN o b = dropN P b ++ C.L.map Buf.b := by
            have := dropN_append P (C.L.map Buf.b) b
            rw [← hcut, dropN_none hbm] at this
            exact this
          rw [e, List.append_assoc]
          have hlen2 : (dropN P b ++ (C.L.map Buf.b ++ [b])).length - C.most = (dropN P b).length + 1 := by
            rw [List.length_append, List.length_append]; simp only [List.length_cons, List.length_nil]; omega
          rw [hlen2, ← List.drop_drop, List.drop_left]
          cases hcl : C.L with
          | nil => exfalso; rw [hcl] at hlt; exact hlt (by simp only [List.length_nil]; omega)
          | cons x L => rfl
        · rw [dropN_none hbo]
          have hlen2 : (o ++ [b]).length - C.most = P.length + 1 := by
            rw [List.length_append]; simp only [List.length_cons, List.length_nil]; omega
          rw [hlen2, hcut, List.append_assoc]
          have hlen3 : (P ++ C.L.map Buf.b).length - C.most = P.length := by rw [← hcut]; omega
          rw [← List.drop_drop, List.drop_left]
          cases hcl : C.L with
          | nil => exfalso; rw [hcl] at hlt; exact hlt (by simp only [List.length_nil]; omega)
          | cons x L => rfl
    · rcases List.mem_append.1 hy with hy | hy
      · exact hl.plain y (r4 y hy)
      · obtain rfl := List.mem_singleton.1 hy; exact ⟨rfl, rfl⟩
theorem has_last {C : CS} {o : List Nat} (hl : lastOf C o) {k : Nat} (hk : k < o.length) : hasB C false false o[k] = decide (o.length - C.most ≤ k) := by
  rw [Bool.eq_iff_iff, has_any, hl.row, decide_eq_true_iff]
  constructor
  · intro hm
    obtain ⟨j, hj, e⟩ := List.getElem_of_mem hm
    rw [List.getElem_drop] at e
    have := (List.getElem_inj hl.un).1 e
    omega
  · intro hle
    have : (o.drop (o.length - C.most))[k - (o.length - C.most)]? = some o[k] := by
      rw [List.getElem?_drop, show o.length - C.most + (k - (o.length - C.most)) = k by omega, List.getElem?_eq_getElem hk]
    exact List.mem_of_getElem? this
/-! ### how many there are -/
theorem cntT_or (p q : Nat → Bool) : ∀ n, cntT (fun b => p b || q b) n ≤ cntT p n + cntT q n
  | 0 => Nat.le_refl _
  | n + 1 => by
    have := cntT_or p q n
    unfold cntT
    cases p n <;> cases q n <;> simp <;> omega
theorem cntT_eq (a : Nat) : ∀ n, cntT (fun b => b == a) n ≤ if n ≤ a then 0 else 1
  | 0 => by rw [if_pos (by omega)]; exact Nat.le_refl _
  | n + 1 => by
    have := cntT_eq a n
    unfold cntT
    by_cases e : n = a
    · subst e
      rw [if_pos (Nat.le_refl _)] at this
      rw [if_pos (by simp), if_neg (by omega)]; omega
    · rw [if_neg (by simpa using e)]
      split at this <;> split <;> omega
theorem cntT_same {p q : Nat → Bool} : ∀ {n}, (∀ b < n, p b = q b) → cntT p n = cntT q n
  | 0, _ => rfl
  | n + 1, h => by unfold cntT; rw [cntT_same fun b hb => h b (by omega), h n (by omega)]
theorem cntT_mem (l : List Nat) (n : Nat) : cntT (fun b => decide (b ∈ l)) n ≤ l.length := by
  induction l with
  | nil =>
    have h : ∀ n, cntT (fun b => decide (b ∈ ([] : List Nat))) n = 0 := fun n => by
      induction n with
      | zero => rfl
      | succ n ih => unfold cntT; rw [ih]; simp
    rw [h]; exact Nat.zero_le _
  | cons a l ih =>
    have h1 := cntT_or (fun b => b == a) (fun b => decide (b ∈ l)) n
    have h2 := cntT_eq a n
    have h3 : cntT (fun b => decide (b ∈ a :: l)) n = cntT (fun b => b == a || decide (b ∈ l)) n := cntT_same fun b _ => by
      rw [Bool.eq_iff_iff, decide_eq_true_iff, List.mem_cons, Bool.or_eq_true, beq_iff_eq, decide_eq_true_iff]
    rw [h3, List.length_cons]
    split at h2 <;> omega
theorem has_count (C : CS) (n : Nat) : cntT (hasB C false false) n ≤ C.L.length := by
  have h : cntT (hasB C false false) n = cntT (fun b => decide (b ∈ C.L.map Buf.b)) n := cntT_same fun b _ => by
    rw [Bool.eq_iff_iff, has_any, decide_eq_true_iff]
  have e : (C.L.map Buf.b).length = C.L.length := List.length_map ..
  rw [h, ← e]
  exact cntT_mem _ _
theorem pendL_countP (p q : Nat → Bool) : ∀ n, (pendL p n).countP q = cntT (fun b => p b && q b) n
  | 0 => rfl
  | n + 1 => by
    unfold pendL cntT
    cases hp : p n with
    | true =>
      rw [if_pos rfl, List.countP_append, pendL_countP p q n, List.countP_cons, List.countP_nil]
      simp
    | false => rw [if_neg (by decide), pendL_countP p q n]; simp
theorem pendL_mem {p : Nat → Bool} {n b : Nat} (hb : b < n) (hp : p b = true) : b ∈ pendL p n := List.mem_of_getElem? (pendL_at p hb hp)
theorem list_mem (C : CS) (d p : Bool) (b : Nat) : b ∈ listB C d p ↔ b < C.st.n ∧ hasB C d p b = true :=
  ⟨fun h => pendL_lt _ h, fun h => pendL_mem h.1 h.2⟩
end Go.Proofs.YtehjobjjlldckaaGreat
