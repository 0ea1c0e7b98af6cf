/- The contracts of the program's two small questions: limits, names. -/
import Derived.Test.YtfcomnpoehpgiaaSpecOk
namespace Go.Proofs.Ytfcomnpoehpgiaa
open Go.RowKit

def limI (room fuse : Int) (n m : Nat) : Bool := decide (0 ≤ room ∧ room ≤ 200000 ∧ -1 ≤ fuse ∧ fuse ≤ 2000 ∧ n ≤ 12 ∧ m ≤ 60)

set_option maxRecDepth 10000 in
set_option maxHeartbeats 4000000 in
theorem implLim (room fuse : Int) (A : Option Addr) (n c : Nat) (B : Option Addr) (m d : Nat) (w : World) (hn : n ≤ 1048576) (hm : m ≤ 1048576) :
    Calls Try.prog 90 #[.agg #[.int .i64 room, .int .i64 fuse, .slice A n c, .slice B m d]] w (Tells w (limI room fuse n m)) := by
  by_cases h1 : 0 ≤ room
  · by_cases h2 : room ≤ 200000
    · by_cases h3 : -1 ≤ fuse
      · by_cases h4 : fuse ≤ 2000
        · by_cases h5 : n ≤ 12
          · by_cases h6 : m ≤ 60
            · have hv : limI room fuse n m = true := by simp [limI, h1, h2, h3, h4, h5, h6]
              rw [hv]
              clear hv
              go_enter Try.func90, Try.ntmps90
              go_wp2
              go_ret
              exact ⟨ret_bool (by simp <;> omega), below_a1 _ _⟩
            · have hv : limI room fuse n m = false := by simp [limI, h6]
              rw [hv]
              clear hv
              go_enter Try.func90, Try.ntmps90
              go_wp2
              go_ret
              exact ⟨ret_bool (by simp <;> omega), below_a1 _ _⟩
          · have hv : limI room fuse n m = false := by simp [limI, h5]
            rw [hv]
            clear hv
            go_enter Try.func90, Try.ntmps90
            go_wp2
            go_ret
            exact ⟨ret_bool (by first | rfl | (simp <;> omega)), below_a1 _ _⟩
        · have hv : limI room fuse n m = false := by simp [limI, h4]
          rw [hv]
          clear hv
          go_enter Try.func90, Try.ntmps90
          go_wp2
          go_ret
          exact ⟨ret_bool (by first | rfl | (simp <;> omega)), below_a1 _ _⟩
      · have hv : limI room fuse n m = false := by simp [limI, h3]
        rw [hv]
        clear hv
        go_enter Try.func90, Try.ntmps90
        go_wp2
        go_ret
        exact ⟨ret_bool (by first | rfl | (simp <;> omega)), below_a1 _ _⟩
    · have hv : limI room fuse n m = false := by simp [limI, h2]
      rw [hv]
      clear hv
      go_enter Try.func90, Try.ntmps90
      go_wp2
      go_ret
      exact ⟨ret_bool (by first | rfl | (simp <;> omega)), below_a1 _ _⟩
  · have hv : limI room fuse n m = false := by simp [limI, h1]
    rw [hv]
    clear hv
    go_enter Try.func90, Try.ntmps90
    go_wp2
    go_ret
    exact ⟨ret_bool (by first | rfl | (simp <;> omega)), below_a1 _ _⟩

theorem implName_q (s : ByteArray) (b : Bool) (h : nameB s = b) (w : World) (hs : s.size ≤ 2097152) : Calls Try.prog 27 #[.string s] w fun e w' => e = .returned (.bool b) ∧ w' = w := by
  subst h
  exact (implName s w hs).mono fun _ _ ⟨h1, h2⟩ => ⟨h1, h2.symm⟩

set_option maxRecDepth 10000 in
set_option maxHeartbeats 4000000 in
theorem implNames (A : Option Addr) (n c : Nat) (es : List Ent) (w : World) (hf : SlF w A n es) (hn : n ≤ 1048576) (hs : ∀ e ∈ es, e.nm.size ≤ 1048576) :
    Calls Try.prog 91 #[.slice A n c] w (Tells w (namesFrom none (es.map Ent.file))) := by
  have HF := Lib.hid hf
  have HS := Lib.hid hs
  clear hf hs
  go_enter Try.func91, Try.ntmps91
  go_wp2
  go_loopw [7] (fun i wr => ∃ k : Nat, k ≤ n ∧ i = .int .i64 k ∧ Hid (namesFrom none (es.map Ent.file) = namesFrom (prevAt (es.map Ent.file) k) ((es.map Ent.file).drop k)) ∧ Hid (Below w.heap.size w wr)) (fun i _ => n - (intOf i).toNat)
  case atStart => exact ⟨0, Nat.zero_le _, rfl, Lib.hid rfl, Lib.hid (Below.refl _ _)⟩
  case round =>
    obtain ⟨k, hk, rfl, hnm, hbel⟩ := hrel
    by_cases hlt : k < n
    · obtain ⟨b, off, e, hA, hbw, he, hok, c0, c1⟩ := HF.out.at_ hlt
      subst hA
      have c0 := (hbel.out.cell (p := ⟨b, off + k * 2, none⟩) hbw).trans c0
      have c1 := (hbel.out.cell (p := ⟨b, off + k * 2 + 1, none⟩) hbw).trans c1
      have hes := HS.out e (List.mem_of_getElem? he.out)
      have hfe : (es.map Ent.file)[k]? = some e.file := by rw [List.getElem?_map, he.out]; rfl
      have hst := namesFrom_at (p := prevAt (es.map Ent.file) k) hfe
      have HPV : Hid (prevAt (es.map Ent.file) (k + 1) = some e.nm) := Lib.hid (by simp only [prevAt]; rw [hfe]; rfl)
      by_cases hgood : nameB e.nm = true
      · have CN := Lib.hid (fun W => implName_q e.nm true hgood W (by omega))
        by_cases hk0 : 0 < k
        · obtain ⟨p, hp⟩ : ∃ p, p = k - 1 := ⟨_, rfl⟩
          have hpn : p < n := by omega
          obtain ⟨b2, off2, e2, hA2, hbw2, he2, hok2, p0, p1⟩ := HF.out.at_ hpn
          obtain ⟨rfl, rfl⟩ : b = b2 ∧ off = off2 := by
            injection hA2 with h
            injection h with h1 h2
            exact ⟨h1, h2⟩
          have p0 := (hbel.out.cell (p := ⟨b, off + p * 2, none⟩) hbw).trans p0
          have hbr : b < wr.heap.size := Nat.lt_of_lt_of_le hbw hbel.out.size
          have p0 : (wr.alloc (.cells #[.string e.nm, .slice e.d.A e.d.n e.d.c] 93)).cell? ⟨b, off + p * 2, none⟩ = some (.string e2.nm) := (World.cell?_alloc_lt _ _ _ hbr).trans p0
          have hpe : (k : Int) - 1 = (p : Int) := by omega
          have hp0 : (0 : Int) ≤ (p : Int) := by omega
          have hpN : (p : Int) < (n : Int) := by omega
          have hk1 : (1 : Int) ≤ (k : Int) := by omega
          have hfp : (es.map Ent.file)[p]? = some e2.file := by rw [List.getElem?_map, he2.out]; rfl
          have hpv : prevAt (es.map Ent.file) k = some e2.nm := by
            rw [show k = p + 1 by omega]
            simp only [prevAt]
            rw [hfp]
            rfl
          have d0 : decide ((0 : Int) < (k : Int)) = true := by simp; omega
          have d0' : decide (0 < k) = true := by simp; omega
          by_cases hlts : ltB e2.nm e.nm = true
          · have hnew : Hid (namesFrom none (es.map Ent.file) = namesFrom (prevAt (es.map Ent.file) (k + 1)) ((es.map Ent.file).drop (k + 1))) := Lib.hid (by
              rw [hnm.out, hst, HPV.out, hpv]
              simp only [Ent.file, hgood, hlts, Bool.true_and])
            have hq : Op.bytesLess e2.nm.toList e.nm.toList = true := hlts
            have hw2 : IntKind.i64.wrap (p : Int) = (p : Int) := IntWalk.i64_in _ (by omega)
            have hw1 : IntKind.i64.wrap ((k : Int) - 1) = (p : Int) := by rw [hpe]; exact hw2
            have htn : ((p : Int)).toNat = p := by simp
            clear hst hfe hk0 hpv hfp hlts hp hA2 p1 hok2 he2
            go_wp2
            go_quiet ((go_at_call 27; exact Calls.quiet_of_same (CN.out _)))
            go_wp2
            go_roundw
            case rel => exact ⟨k + 1, by omega, by go_num, hnew, Lib.hid (below_drewN (hbel.out.alloc hbel.out.size _) _)⟩
            case measure => simp [intOf]; omega
          · have hltf : ltB e2.nm e.nm = false := by simpa using hlts
            have hans : Hid (namesFrom none (es.map Ent.file) = false) := Lib.hid (by
              rw [hnm.out, hst, hpv]
              simp only [Ent.file, hltf, Bool.false_and, Bool.and_false])
            have hq : Op.bytesLess e2.nm.toList e.nm.toList = false := hltf
            have hw2 : IntKind.i64.wrap (p : Int) = (p : Int) := IntWalk.i64_in _ (by omega)
            have hw1 : IntKind.i64.wrap ((k : Int) - 1) = (p : Int) := by rw [hpe]; exact hw2
            have htn : ((p : Int)).toNat = p := by simp
            clear hst hfe hk0 hpv hfp hlts hltf hp hA2 p1 hok2 he2
            go_wp2
            go_quiet ((go_at_call 27; exact Calls.quiet_of_same (CN.out _)))
            go_wp2
            go_ret
            exact ⟨ret_bool hans.out.symm, below_drewN (hbel.out.alloc hbel.out.size _) _⟩
        · have hk00 : k = 0 := by omega
          have hnew : Hid (namesFrom none (es.map Ent.file) = namesFrom (prevAt (es.map Ent.file) (k + 1)) ((es.map Ent.file).drop (k + 1))) := Lib.hid (by
            rw [hnm.out, hst, HPV.out]
            simp only [prevAt, hk00, Ent.file, hgood, Bool.true_and])
          have d0 : decide ((0 : Int) < (k : Int)) = false := by simp; omega
          have d0' : decide (0 < k) = false := by simp; omega
          clear hst hfe hk00 hk0
          go_wp2
          go_quiet ((go_at_call 27; exact Calls.quiet_of_same (CN.out _)))
          go_wp2
          go_roundw
          case rel => exact ⟨k + 1, by omega, by go_num, hnew, Lib.hid (below_drewN (hbel.out.alloc hbel.out.size _) _)⟩
          case measure => simp [intOf]; omega
      · have hbad : nameB e.nm = false := by simpa using hgood
        have CN := Lib.hid (fun W => implName_q e.nm false hbad W (by omega))
        have hans : Hid (namesFrom none (es.map Ent.file) = false) := Lib.hid (by
          rw [hnm.out, hst]
          simp only [Ent.file, hbad, Bool.false_and])
        clear hst hfe hgood hbad
        go_wp2
        go_quiet ((go_at_call 27; exact Calls.quiet_of_same (CN.out _)))
        go_wp2
        go_ret
        exact ⟨ret_bool hans.out.symm, below_drewN (hbel.out.alloc hbel.out.size _) _⟩
    · have hall : Hid (namesFrom none (es.map Ent.file) = true) := Lib.hid (by
        rw [hnm.out, List.drop_eq_nil_of_le (by rw [List.length_map, HF.out.len]; omega)]
        cases prevAt (es.map Ent.file) k <;> rfl)
      go_wp2
      go_ret
      exact ⟨ret_bool hall.out.symm, hbel.out⟩
end Go.Proofs.Ytfcomnpoehpgiaa
