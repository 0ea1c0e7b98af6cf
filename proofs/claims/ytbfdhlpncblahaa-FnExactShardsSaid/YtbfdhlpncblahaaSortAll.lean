/- The contracts of the model's and of the program's SortAll. Condition: at most 2^20 records. -/
import Derived.Test.YtbfdhlpncblahaaBatS
import Derived.Test.YtbfdhlpncblahaaBatI
import Derived.Test.YtbfdhlpncblahaaMergeS
import Derived.Test.YtbfdhlpncblahaaMergeI
import Derived.Test.YtbfdhlpncblahaaBatOwn
namespace Go.Proofs.Ytbfdhlpncblahaa
open Go.RowKit

set_option maxRecDepth 10000 in
set_option maxHeartbeats 400000 in
theorem specSortAll (A : Option Addr) (n c : Nat) (es : List GE) (b : Int) (w : World) (hr : SlG w A n es) (hn : n ≤ 1048576) (hc : n ≤ c) :
    Calls Try.prog 36 #[.slice A n c, .int .i64 b] w (MadeRc w (mergeAll (batchesZ b es))) := by
  have C := Lib.hid (specBatches A n c es b w hr hn hc)
  have h1 := batchesZ_len b es
  have h2 := batchesZ_total b es
  rw [hr.len] at h1 h2
  have HX1 := Lib.hid (Nat.le_trans h1 hn)
  have HX2 := Lib.hid (Nat.le_trans h2 hn)
  clear hr h1 h2
  go_enter Try.func36, Try.ntmps36
  go_wp2_with fail
  refine C.out.mono ?_
  rintro e w1 ⟨A1, n1, c1, b1, rfl, ho, hx, hb1⟩
  have S := Lib.hid (ho.small hx HX1.out HX2.out)
  have D1 := Lib.hid ho.sl
  have K1 := Lib.hid (bat_cap ho.row)
  have HX := Lib.hid hx
  have HB := Lib.hid hb1
  have hk : n1 ≤ 1048576 := S.out.c
  have ht : totalR (b1.map BE.es) ≤ 1048576 := by rw [hx]; exact HX2.out
  have CM := Lib.hid (specMerge A1 n1 c1 b1 w1 D1.out hk ht)
  rw [hx] at CM
  clear ho hx hb1 ht
  go_wp2_with fail
  refine CM.out.mono ?_
  rintro e w2 ⟨A2, c2, rfl, ho2, hb2⟩
  have HB2 := HB.out.size
  go_wp2
  go_ret
  exact ⟨A2, c2, rfl, own_monoG ho2 HB2, g_chain HB.out hb2⟩
set_option maxRecDepth 10000 in
set_option maxHeartbeats 400000 in
theorem implSortAll (A : Option Addr) (n c : Nat) (es : List GE) (b : Int) (w : World) (hr : SlG w A n es) (hn : n ≤ 1048576) (hc : n ≤ c) (hb : b ≤ 9223372036854775807) :
    Calls Try.prog 38 #[.slice A n c, .int .i64 b] w (MadeRc w (mergeAll (batchesZ b es))) := by
  have C := Lib.hid (implBatches A n c es b w hr hn hc hb)
  have h1 := batchesZ_len b es
  have h2 := batchesZ_total b es
  rw [hr.len] at h1 h2
  have HX1 := Lib.hid (Nat.le_trans h1 hn)
  have HX2 := Lib.hid (Nat.le_trans h2 hn)
  clear hr h1 h2
  go_enter Try.func38, Try.ntmps38
  go_wp2_with fail
  refine C.out.mono ?_
  rintro e w1 ⟨A1, n1, c1, b1, rfl, ho, hx, hb1⟩
  have S := Lib.hid (ho.small hx HX1.out HX2.out)
  have D1 := Lib.hid ho.sl
  have K1 := Lib.hid (bat_cap ho.row)
  have HX := Lib.hid hx
  have HB := Lib.hid hb1
  have hk : n1 ≤ 1048576 := S.out.c
  have ht : totalR (b1.map BE.es) ≤ 1048576 := by rw [hx]; exact HX2.out
  have CM := Lib.hid (implMerge A1 n1 c1 b1 w1 D1.out K1.out hk ht)
  rw [hx] at CM
  clear ho hx hb1 ht
  go_wp2_with fail
  refine CM.out.mono ?_
  rintro e w2 ⟨A2, c2, rfl, ho2, hb2⟩
  have HB2 := HB.out.size
  go_wp2
  go_ret
  exact ⟨A2, c2, rfl, own_monoG ho2 HB2, g_chain HB.out hb2⟩
end Go.Proofs.Ytbfdhlpncblahaa
