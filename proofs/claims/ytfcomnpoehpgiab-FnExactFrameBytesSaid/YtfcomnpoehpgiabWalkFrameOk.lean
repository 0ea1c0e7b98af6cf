/- The walk of the law FnExactFrameOk: it returns true and writes nothing that was there. -/
import Derived.Test.YtfcomnpoehpgiabFr
import Derived.Deep.RegionWith
namespace Go.Proofs.Ytfcomnpoehpgiab
open Go.RowKit

/-- A block that holds two cells. -/
structure Box2 (w : World) (b : Nat) (v0 v1 : Value) : Prop where
  lt : b < w.heap.size
  c0 : w.cell? ⟨b, 0, none⟩ = some v0
  c1 : w.cell? ⟨b, 1, none⟩ = some v1
section
variable {w w' : World} {b : Nat} {v0 v1 : Value}
theorem Box2.keep (h : Box2 w b v0 v1) (hs : w.heap.size ≤ w'.heap.size) (hk : w'.heap[b]? = w.heap[b]?) : Box2 w' b v0 v1 :=
  ⟨Nat.lt_of_lt_of_le h.lt hs, (World.cell?_of_block (a := ⟨b, 0, none⟩) hk).trans h.c0, (World.cell?_of_block (a := ⟨b, 1, none⟩) hk).trans h.c1⟩
theorem Box2.below (h : Box2 w b v0 v1) (hb : Below w.heap.size w w') : Box2 w' b v0 v1 := h.keep hb.size (hb.block b h.lt)
theorem Box2.new (w : World) (v0 v1 : Value) (t : TypeId) : Box2 (w.alloc (.cells #[v0, v1] t)) w.heap.size v0 v1 := ⟨by simp, by simp, by simp⟩
end
theorem made_ok {W : World} {lo c : Nat} {A : Option Addr} {xs : List Nat} (h : W.ownsRow lo 5 1 (.slice A xs.length c) xs.length (vb xs)) (hs : ∀ x ∈ xs, x < 256) : (⟨A, xs.length, c, xs⟩ : Dat).Ok W := ⟨Rd.of_own h hs, own_cap h⟩

set_option maxRecDepth 20000 in
set_option maxHeartbeats 4000000 in
theorem walkFrameOk (kind : Int) (d : Dat) (w : World) (hin : FrIn w kind d) :
    Calls Try.prog 4 #[.agg #[.int .i64 kind, .slice d.A d.n d.c]] w fun e w' => e = .returned (.bool true) ∧ Below w.heap.size w w' := by
  obtain ⟨_, hok, hn⟩ := hin
  have CZ := Lib.hid (fun W => szFr_any kind d.A d.n d.c 1048576 W hn (by omega) (by omega))
  by_cases hb : (d.n : Int) ≤ 1048576
  · rw [leftN_pos hb] at CZ
    have hp : (0 : Int) ≤ 1048576 - (d.n : Int) := by omega
    generalize (1048576 : Int) - (d.n : Int) = q at CZ hp
    have CT := Lib.hid (fun W (h : Below w.heap.size w W) => toFr_any kind d W (hok.below h) (by omega))
    have hxl : d.n = d.xs.length := hok.rd.len.symm
    have hxn : d.xs.length ≤ 2097152 := by omega
    have HSM := Lib.hid hok.rd.small
    have CS := Lib.hid (fun W A c => specFrOk kind A d.xs.length c W (by omega))
    have CI := Lib.hid (fun W A c => implFrOk kind A d.xs.length c W (by omega))
    have CE := Lib.hid (fun W A c A' c' (h1 : (⟨A, d.xs.length, c, d.xs⟩ : Dat).Ok W) (h2 : (⟨A', d.xs.length, c', d.xs⟩ : Dat).Ok W) => eqFr_any kind ⟨A, d.xs.length, c, d.xs⟩ ⟨A', d.xs.length, c', d.xs⟩ W h1 h2 rfl hxn)
    generalize frOk kind d.xs.length = ok at CS CI
    obtain ⟨A0, n0, c0, xs⟩ := d
    simp only at *
    clear hn hb hxl hok
    go_enter Try.func4, Try.ntmps4
    go_wp2_with fail
    refine (CZ.out _).mono ?_
    rintro e wa ⟨rfl, hba⟩
    have B0 := Lib.hid ((Box2.new w (.int .i64 kind) (.slice A0 n0 c0) 33).below hba)
    have HA := Lib.hid (fr_chain (below_a1 w _) hba)
    obtain ⟨l0, c00, c01⟩ := B0.out
    clear hba
    go_wp2_with fail
    refine (CT.out _ HA.out).mono ?_
    rintro e wb ⟨A1, c1, rfl, ho1, hbb⟩
    have B1 := Lib.hid (B0.out.below hbb)
    have HB := Lib.hid (fr_chain HA.out hbb)
    clear hbb ho1 c00 c01 l0
    go_wp2_with fail
    refine (CS.out _ _ _).mono ?_
    rintro e wc ⟨rfl, hbc⟩
    have B2 := Lib.hid (B1.out.below hbc)
    have HC := Lib.hid (fr_chain HB.out hbc)
    obtain ⟨l0, c00, c01⟩ := B2.out
    clear hbc
    go_wp2_with fail
    refine (CT.out _ HC.out).mono ?_
    rintro e wd ⟨A2, c2, rfl, ho2, hbd⟩
    have D2 := Lib.hid ((made_ok ho2 HSM.out).alloc (.cells #[.int .i64 kind, .slice A2 xs.length c2] 26))
    have X2 := Lib.hid (Box2.new wd (.int .i64 kind) (.slice A2 xs.length c2) 26)
    have B3 := Lib.hid ((B2.out.below hbd).below (below_a1 wd (.cells #[.int .i64 kind, .slice A2 xs.length c2] 26)))
    have HD := Lib.hid (fr_chain (fr_chain HC.out hbd) (below_a1 wd (.cells #[.int .i64 kind, .slice A2 xs.length c2] 26)))
    clear hbd ho2 c00 c01 l0
    go_wp2_with fail
    refine (CI.out _ _ _).mono ?_
    rintro e we ⟨rfl, hbe⟩
    have B4 := Lib.hid (B3.out.below hbe)
    have X4 := Lib.hid (X2.out.below hbe)
    have D4 := Lib.hid (D2.out.below hbe)
    have HE := Lib.hid (fr_chain HD.out hbe)
    obtain ⟨l0, c00, c01⟩ := B4.out
    obtain ⟨l1, c10, c11⟩ := X4.out
    clear hbe
    go_wp2
    go_region_with (first
      | (go_at_call 15; ((with_reducible refine (CT.out _ (by first | exact HE.out | exact HE.out.drew | exact HE.out.drew.drew)).mono ?_)); rintro e wf ⟨A3, c3, rfl, ho3, hbf⟩; obtain ⟨l2, c20, c21⟩ := X4.out.keep hbf.size (hbf.block _ X4.out.lt); have D5 := Lib.hid (D4.out.keep (w' := wf) hbf.size hbf.block); have D6 := Lib.hid (made_ok ho3 HSM.out))
      | (go_at_call 17; ((with_reducible refine (CE.out _ _ _ _ _ D5.out D6.out).mono ?_)); rintro e wg ⟨rfl, hbg⟩))
    all_goals
      go_wp2
      go_ret
      exact ⟨rfl, fr_chain (fr_chain HE.out.drew hbf) hbg⟩
  · rw [leftN_neg (by omega)] at CZ
    obtain ⟨A0, n0, c0, xs⟩ := d
    simp only at *
    clear hn hb hok
    go_enter Try.func4, Try.ntmps4
    go_wp2_with fail
    refine (CZ.out _).mono ?_
    rintro e wa ⟨rfl, hba⟩
    go_wp2
    go_ret
    exact ⟨rfl, fr_chain (below_a1 w _) hba⟩
end Go.Proofs.Ytfcomnpoehpgiab
