/- Lists of shards in memory and their data (plain lemmas; no condition). -/
import Derived.Test.YtbfdhlpncblahaaHe
import Derived.Test.YtbfdhlpncblahaaJoinMath
namespace Go.Proofs.Ytbfdhlpncblahaa
open Go.RowKit

def sdL (bs : List HE) : List SD := bs.map HE.sd
theorem sdL_len (bs : List HE) : (sdL bs).length = bs.length := by simp [sdL]
theorem sdL_drop {bs : List HE} {k : Nat} {e : HE} (h : bs[k]? = some e) : (sdL bs).drop k = e.sd :: (sdL bs).drop (k + 1) := by
  unfold sdL
  exact g_drop _ k _ (by rw [List.getElem?_map, h]; rfl)
theorem sdL_take {bs : List HE} {k : Nat} {e : HE} (h : bs[k]? = some e) : (sdL bs).take (k + 1) = (sdL bs).take k ++ [e.sd] := by
  unfold sdL
  exact g_take _ k _ (by rw [List.getElem?_map, h]; rfl)
theorem chain_step {N a : Int} {bs : List HE} {k : Nat} {e : HE} (h : bs[k]? = some e) : chainB N a ((sdL bs).drop k) = (shardB e.lo e.hi e.es && decide (e.lo = a) && chainB N e.hi ((sdL bs).drop (k + 1))) := by
  rw [sdL_drop h, chainB]
  rfl
theorem flat_step {bs : List HE} {k : Nat} {e : HE} (h : bs[k]? = some e) : flatK ((sdL bs).take (k + 1)) = flatK ((sdL bs).take k) ++ e.es := by
  rw [sdL_take h, flatK_append]
  simp [flatK, HE.sd]
theorem flat_mid {bs : List HE} {k j : Nat} {e : HE} {x : KE} (h : bs[k]? = some e) (hx : e.es[j]? = some x) : ∃ G, flatK (sdL bs) = (flatK ((sdL bs).take k) ++ e.es.take j) ++ x :: G := by
  refine ⟨e.es.drop (j + 1) ++ flatK ((sdL bs).drop (k + 1)), ?_⟩
  have h1 : sdL bs = (sdL bs).take k ++ (e.sd :: (sdL bs).drop (k + 1)) := by rw [← sdL_drop h, List.take_append_drop]
  have h2 : e.es = e.es.take j ++ (x :: e.es.drop (j + 1)) := by rw [← g_drop e.es j x hx, List.take_append_drop]
  calc flatK (sdL bs) = flatK ((sdL bs).take k) ++ (e.es ++ flatK ((sdL bs).drop (k + 1))) := by
        conv => lhs; rw [h1]
        rw [flatK_append, flatK_cons]
        rfl
    _ = flatK ((sdL bs).take k) ++ ((e.es.take j ++ (x :: e.es.drop (j + 1))) ++ flatK ((sdL bs).drop (k + 1))) := by rw [← h2]
    _ = _ := by simp
theorem flat_all (bs : List HE) {k : Nat} (h : bs.length ≤ k) : flatK ((sdL bs).take k) = flatK (sdL bs) := by
  rw [List.take_of_length_le (by rw [sdL_len]; exact h)]
end Go.Proofs.Ytbfdhlpncblahaa
