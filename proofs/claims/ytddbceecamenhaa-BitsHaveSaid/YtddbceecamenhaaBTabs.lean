/- The contracts of the library's two bit counts: their tables behind names. -/
import Derived.Test.YtddbceecamenhaaBits
import Derived.Lib.BitFns
namespace Go.Proofs.Ytddbceecamenhaa
set_option linter.unusedVariables false
open Go.RowKit

set_option maxRecDepth 100000 in
theorem ntz_fold : (⟨((([8, 0, 1, 0, 2, 0, 1, 0, 3, 0, 1, 0, 2, 0, 1, 0, 4, 0, 1, 0, 2, 0, 1, 0, 3, 0, 1, 0, 2, 0, 1, 0, 5, 0, 1, 0, 2, 0, 1, 0, 3, 0, 1, 0, 2, 0, 1, 0, 4, 0, 1, 0, 2, 0, 1, 0, 3, 0, 1, 0, 2, 0, 1, 0] : List UInt8).append ([6, 0, 1, 0, 2, 0, 1, 0, 3, 0, 1, 0, 2, 0, 1, 0, 4, 0, 1, 0, 2, 0, 1, 0, 3, 0, 1, 0, 2, 0, 1, 0, 5, 0, 1, 0, 2, 0, 1, 0, 3, 0, 1, 0, 2, 0, 1, 0, 4, 0, 1, 0, 2, 0, 1, 0, 3, 0, 1, 0, 2, 0, 1, 0] : List UInt8)).append (([7, 0, 1, 0, 2, 0, 1, 0, 3, 0, 1, 0, 2, 0, 1, 0, 4, 0, 1, 0, 2, 0, 1, 0, 3, 0, 1, 0, 2, 0, 1, 0, 5, 0, 1, 0, 2, 0, 1, 0, 3, 0, 1, 0, 2, 0, 1, 0, 4, 0, 1, 0, 2, 0, 1, 0, 3, 0, 1, 0, 2, 0, 1, 0] : List UInt8).append ([6, 0, 1, 0, 2, 0, 1, 0, 3, 0, 1, 0, 2, 0, 1, 0, 4, 0, 1, 0, 2, 0, 1, 0, 3, 0, 1, 0, 2, 0, 1, 0, 5, 0, 1, 0, 2, 0, 1, 0, 3, 0, 1, 0, 2, 0, 1, 0, 4, 0, 1, 0, 2, 0, 1, 0, 3, 0, 1, 0, 2, 0, 1, 0] : List UInt8))).toArray⟩ : ByteArray) = Lib.ntz8tab := by kernel_rfl
set_option maxRecDepth 100000 in
theorem pop_fold : (⟨((([0, 1, 1, 2, 1, 2, 2, 3, 1, 2, 2, 3, 2, 3, 3, 4, 1, 2, 2, 3, 2, 3, 3, 4, 2, 3, 3, 4, 3, 4, 4, 5, 1, 2, 2, 3, 2, 3, 3, 4, 2, 3, 3, 4, 3, 4, 4, 5, 2, 3, 3, 4, 3, 4, 4, 5, 3, 4, 4, 5, 4, 5, 5, 6] : List UInt8).append ([1, 2, 2, 3, 2, 3, 3, 4, 2, 3, 3, 4, 3, 4, 4, 5, 2, 3, 3, 4, 3, 4, 4, 5, 3, 4, 4, 5, 4, 5, 5, 6, 2, 3, 3, 4, 3, 4, 4, 5, 3, 4, 4, 5, 4, 5, 5, 6, 3, 4, 4, 5, 4, 5, 5, 6, 4, 5, 5, 6, 5, 6, 6, 7] : List UInt8)).append (([1, 2, 2, 3, 2, 3, 3, 4, 2, 3, 3, 4, 3, 4, 4, 5, 2, 3, 3, 4, 3, 4, 4, 5, 3, 4, 4, 5, 4, 5, 5, 6, 2, 3, 3, 4, 3, 4, 4, 5, 3, 4, 4, 5, 4, 5, 5, 6, 3, 4, 4, 5, 4, 5, 5, 6, 4, 5, 5, 6, 5, 6, 6, 7] : List UInt8).append ([2, 3, 3, 4, 3, 4, 4, 5, 3, 4, 4, 5, 4, 5, 5, 6, 3, 4, 4, 5, 4, 5, 5, 6, 4, 5, 5, 6, 5, 6, 6, 7, 3, 4, 4, 5, 4, 5, 5, 6, 4, 5, 5, 6, 5, 6, 6, 7, 4, 5, 5, 6, 5, 6, 6, 7, 5, 6, 6, 7, 6, 7, 7, 8] : List UInt8))).toArray⟩ : ByteArray) = Lib.pop8tab := by kernel_rfl

/-- the lowest bit of a byte that is 1, and how many are -/
def tz8 (x : Nat) : Nat := nxt (fun i => x.testBit i) true 0 8
def oc8 (x : Nat) : Nat := cnt (fun i => x.testBit i) 8
theorem oc_low : ∀ x < 256, ∀ r < 8, oc8 (x * 2 ^ (8 - r) % 256) = cnt (fun i => x.testBit i) r := by decide +kernel
theorem tz_tab : ∀ n : Fin 256, ((Lib.ntz8tab[n.val]?).getD 0).toNat = tz8 n.val := by decide +kernel
set_option maxRecDepth 100000 in
theorem tz_any (x : Nat) (hx : x < 256) (w : World) :
    Calls Try.prog 32 #[.int .u8 x] w fun e w' => e = .returned (.int .i64 (tz8 x : Nat)) ∧ w = w' := by
  refine calls_of_wp Try.func32 rfl ?_
  simp only [ntz_fold]
  simp only [Try.ntmps32, List.size_toArray, List.length_cons, List.length_nil, Nat.reduceAdd, Nat.reduceSub, Array.replicate_succ,
     Array.replicate_zero, List.push_toArray, List.append_toArray, List.nil_append, List.cons_append]
  go_wp2
  go_ret
  rename_i h
  have h1 := tz_tab ⟨x, hx⟩
  simp only [ByteArray.getElem?_lt' _ _ h, Option.getD_some] at h1
  refine ⟨?_, rfl⟩
  show Ending.returned (.int .i64 (wrap64 ((Lib.ntz8tab[x].toNat : Nat) : Int))) = _
  rw [h1]
  have h2 : tz8 x < 256 := by rw [← h1]; exact UInt8.toNat_lt _
  refine ret_int ?_
  unfold wrap64; omega
theorem oc_tab : ∀ n : Fin 256, ((Lib.pop8tab[n.val]?).getD 0).toNat = oc8 n.val := by decide +kernel
set_option maxRecDepth 100000 in
theorem oc_any (x : Nat) (hx : x < 256) (w : World) :
    Calls Try.prog 29 #[.int .u8 x] w fun e w' => e = .returned (.int .i64 (oc8 x : Nat)) ∧ w = w' := by
  refine calls_of_wp Try.func29 rfl ?_
  simp only [pop_fold]
  simp only [Try.ntmps29, List.size_toArray, List.length_cons, List.length_nil, Nat.reduceAdd, Nat.reduceSub, Array.replicate_succ,
     Array.replicate_zero, List.push_toArray, List.append_toArray, List.nil_append, List.cons_append]
  go_wp2
  go_ret
  rename_i h
  have h1 := oc_tab ⟨x, hx⟩
  simp only [ByteArray.getElem?_lt' _ _ h, Option.getD_some] at h1
  refine ⟨?_, rfl⟩
  show Ending.returned (.int .i64 (wrap64 ((Lib.pop8tab[x].toNat : Nat) : Int))) = _
  rw [h1]
  have h2 : oc8 x < 256 := by rw [← h1]; exact UInt8.toNat_lt _
  refine ret_int ?_
  unfold wrap64; omega
end Go.Proofs.Ytddbceecamenhaa
