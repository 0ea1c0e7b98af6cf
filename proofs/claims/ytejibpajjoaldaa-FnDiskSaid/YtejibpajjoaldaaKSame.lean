/- The contract of the laws' helper that compares two lists of files. -/
import Derived.Test.YtejibpajjoaldaaC1
import Derived.Test.YtejibpajjoaldaaC2
namespace Go.Proofs.Ytejibpajjoaldaa
open Go.RowKit

set_option maxRecDepth 10000 in
set_option maxHeartbeats 2000000 in
theorem sameFiles_any (A B : Option Addr) (n c d : Nat) (es es' : List Ent) (w : World) (ha : SlF w A n es) (hb : SlF w B n es') (hx : es.map Ent.file = es'.map Ent.file) (hn : n ≤ 2097152) :
    Calls Try.prog 15 #[.slice A n c, .slice B n d] w (Tells w true) := by
  have HA := Lib.hid ha
  have HB := Lib.hid hb
  have HX := Lib.hid hx
  clear ha hb hx
  go_enter Try.func15, Try.ntmps15
  go_wp2
  go_loopw [13] (fun i wr => ∃ k q : Nat, k ≤ n ∧ i = .int .i64 k ∧ wr = w.drewN q) (fun i _ => n - (intOf i).toNat)
  case atStart => exact ⟨0, 0, Nat.zero_le _, rfl, rfl⟩
  case round =>
    obtain ⟨k, q, hk, rfl, rfl⟩ := hrel
    by_cases hlt : k < n
    · obtain ⟨b, off, e, rfl, hbw, he, hok, c0, c1⟩ := HA.out.at_ hlt
      obtain ⟨b', off', e', rfl, hbw', he', hok', c0', c1'⟩ := HB.out.at_ hlt
      obtain ⟨hnm, hxs⟩ := file_split (map_at HX.out he.out he'.out)
      have V1 := fun j => conv_rd e.d.c (hok.out.rd.drewN j)
      have V2 := fun j => conv_rd e'.d.c (hok'.out.rd.drewN j)
      rw [← hxs] at V2
      rw [← hnm] at c0'
      generalize strB e.d.xs = ss at V1 V2
      clear hnm hxs he he' hok hok'
      go_wp2
      go_quiet (fail)
      go_wp2
      go_roundw
      case rel => exact ⟨k + 1, _, by omega, by go_num, rfl⟩
      case measure => simp [intOf]; omega
    · go_wp2
      go_ret
      exact ⟨rfl, below_drewN (Below.refl _ _) q⟩
end Go.Proofs.Ytejibpajjoaldaa
