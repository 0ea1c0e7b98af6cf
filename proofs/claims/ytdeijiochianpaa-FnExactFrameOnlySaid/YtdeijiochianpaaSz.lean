/- The contracts of the laws' helpers that measure arguments: each answers what is left, or -1. -/
import Derived.Test.YtdeijiochianpaaEnt
import Derived.Test.YtdeijiochianpaaRows
import Derived.Deep.QuietTactic
import Derived.BigQuiet
namespace Go.Proofs.Ytdeijiochianpaa
open Go.RowKit

def szI (left : Int) (n : Nat) : Int := if (n : Int) ≤ left then left - n else -1
theorem szI_pos {left : Int} {n : Nat} (h : (n : Int) ≤ left) : szI left n = left - n := if_pos h
theorem szI_neg {left : Int} {n : Nat} (h : left < (n : Int)) : szI left n = -1 := if_neg (by omega)
def Ent.sz (e : Ent) : Nat := e.nm.size + e.d.n
def OpE.sz (o : OpE) : Nat := o.nm.size + o.to.size + o.d.n
theorem ret_int {k : IntKind} {a b : Int} (h : a = b) : Ending.returned (.int k a) = .returned (.int k b) := by rw [h]

/-- A number, and the old memory as it was. -/
def Nums (w : World) (b : Int) (e : Ending) (w' : World) : Prop := e = .returned (.int .i64 b) ∧ Below w.heap.size w w'

theorem szBytes_any (A : Option Addr) (n c : Nat) (left : Int) (w : World) (hn : n ≤ maxLen) (h0 : 0 ≤ left) (h1 : left ≤ 1048576) :
    Calls Try.prog 70 #[.slice A n c, .int .i64 left] w fun e w' => e = .returned (.int .i64 (szI left n)) ∧ w = w' := by
  unfold maxLen at hn
  by_cases h : (n : Int) ≤ left
  · have HV := Lib.hid (szI_pos h)
    have h2 : 0 ≤ left - (n : Int) := by omega
    go_enter Try.func70, Try.ntmps70
    go_wp2
    go_ret
    exact ⟨ret_int HV.out.symm, rfl⟩
  · have HV := Lib.hid (szI_neg (n := n) (left := left) (by omega))
    have h2 : left - (n : Int) < 0 := by omega
    go_enter Try.func70, Try.ntmps70
    go_wp2
    go_ret
    exact ⟨ret_int HV.out.symm, rfl⟩

set_option maxHeartbeats 400000 in
theorem szFile_any (s : ByteArray) (A : Option Addr) (n c : Nat) (left : Int) (w : World) (hs : s.size ≤ maxLen) (hn : n ≤ maxLen) (h0 : 0 ≤ left) (h1 : left ≤ 1048576) :
    Calls Try.prog 105 #[.agg #[.string s, .slice A n c], .int .i64 left] w (Nums w (szI left (s.size + n))) := by
  unfold maxLen at hs
  by_cases h : (s.size : Int) ≤ left
  · have h2 : 0 ≤ left - (s.size : Int) := by omega
    have C := Lib.hid (fun w => szBytes_any A n c (left - s.size) w hn h2 (by omega))
    by_cases h3 : ((s.size + n : Nat) : Int) ≤ left
    · have HV := Lib.hid (szI_pos h3)
      have h4 : 0 ≤ left - (s.size : Int) - n := by omega
      rw [szI_pos (by omega)] at C
      clear hn
      go_enter Try.func105, Try.ntmps105
      go_wp2_with fail
      refine (C.out _).mono ?_
      rintro e w' ⟨rfl, rfl⟩
      go_wp2
      go_ret
      exact ⟨ret_int (by rw [HV.out]; omega), (Below.refl _ _).alloc (Nat.le_refl _) _⟩
    · have HV := Lib.hid (szI_neg (left := left) (n := s.size + n) (by omega))
      rw [szI_neg (by omega)] at C
      clear hn
      go_enter Try.func105, Try.ntmps105
      go_wp2_with fail
      refine (C.out _).mono ?_
      rintro e w' ⟨rfl, rfl⟩
      go_wp2
      go_ret
      exact ⟨ret_int HV.out.symm, (Below.refl _ _).alloc (Nat.le_refl _) _⟩
  · have HV := Lib.hid (szI_neg (left := left) (n := s.size + n) (by omega))
    have h2 : left - (s.size : Int) < 0 := by omega
    clear hn
    go_enter Try.func105, Try.ntmps105
    go_wp2_with fail
    go_ret
    exact ⟨ret_int HV.out.symm, (Below.refl _ _).alloc (Nat.le_refl _) _⟩

set_option maxHeartbeats 1000000 in
theorem szOp_any (kind : Int) (s t : ByteArray) (A : Option Addr) (n c : Nat) (left : Int) (w : World) (hs : s.size ≤ maxLen) (ht : t.size ≤ maxLen) (hn : n ≤ maxLen) (h0 : 0 ≤ left) (h1 : left ≤ 1048576) :
    Calls Try.prog 21 #[.agg #[.int .i64 kind, .string s, .string t, .slice A n c], .int .i64 left] w (Nums w (szI left (s.size + t.size + n))) := by
  unfold maxLen at hs ht
  by_cases h : (s.size : Int) ≤ left
  · have h2 : 0 ≤ left - (s.size : Int) := by omega
    by_cases h5 : (t.size : Int) ≤ left - s.size
    · have h6 : 0 ≤ left - (s.size : Int) - t.size := by omega
      have C := Lib.hid (fun w => szBytes_any A n c (left - s.size - t.size) w hn h6 (by omega))
      by_cases h3 : ((s.size + t.size + n : Nat) : Int) ≤ left
      · have HV := Lib.hid (szI_pos h3)
        have h4 : 0 ≤ left - (s.size : Int) - t.size - n := by omega
        rw [szI_pos (by omega)] at C
        clear hn
        go_enter Try.func21, Try.ntmps21
        go_wp2_with fail
        refine (C.out _).mono ?_
        rintro e w' ⟨rfl, rfl⟩
        go_wp2
        go_ret
        exact ⟨ret_int (by rw [HV.out]; omega), (Below.refl _ _).alloc (Nat.le_refl _) _⟩
      · have HV := Lib.hid (szI_neg (left := left) (n := s.size + t.size + n) (by omega))
        rw [szI_neg (by omega)] at C
        clear hn
        go_enter Try.func21, Try.ntmps21
        go_wp2_with fail
        refine (C.out _).mono ?_
        rintro e w' ⟨rfl, rfl⟩
        go_wp2
        go_ret
        exact ⟨ret_int HV.out.symm, (Below.refl _ _).alloc (Nat.le_refl _) _⟩
    · have HV := Lib.hid (szI_neg (left := left) (n := s.size + t.size + n) (by omega))
      have h6 : left - (s.size : Int) - t.size < 0 := by omega
      clear hn
      go_enter Try.func21, Try.ntmps21
      go_wp2_with fail
      go_ret
      exact ⟨ret_int HV.out.symm, (Below.refl _ _).alloc (Nat.le_refl _) _⟩
  · have HV := Lib.hid (szI_neg (left := left) (n := s.size + t.size + n) (by omega))
    have h2 : left - (s.size : Int) < 0 := by omega
    clear hn
    go_enter Try.func21, Try.ntmps21
    go_wp2_with fail
    go_ret
    exact ⟨ret_int HV.out.symm, (Below.refl _ _).alloc (Nat.le_refl _) _⟩

def sumF (es : List Ent) : Nat := (es.map Ent.sz).sum
def sumO (os : List OpE) : Nat := (os.map OpE.sz).sum
theorem sumF_step (es : List Ent) (k : Nat) (e : Ent) (h : es[k]? = some e) : sumF (es.take (k + 1)) = sumF (es.take k) + e.sz := by
  obtain ⟨hk, rfl⟩ := List.getElem?_eq_some_iff.1 h
  unfold sumF
  rw [List.take_succ_eq_append_getElem hk, List.map_append, List.sum_append]
  simp
theorem sumO_step (es : List OpE) (k : Nat) (e : OpE) (h : es[k]? = some e) : sumO (es.take (k + 1)) = sumO (es.take k) + e.sz := by
  obtain ⟨hk, rfl⟩ := List.getElem?_eq_some_iff.1 h
  unfold sumO
  rw [List.take_succ_eq_append_getElem hk, List.map_append, List.sum_append]
  simp
theorem sumF_le (es : List Ent) (k : Nat) : sumF (es.take k) ≤ sumF es := by
  have : sumF es = sumF (es.take k) + sumF (es.drop k) := by unfold sumF; rw [← List.sum_append, ← List.map_append, List.take_append_drop]
  omega
theorem sumO_le (es : List OpE) (k : Nat) : sumO (es.take k) ≤ sumO es := by
  have : sumO es = sumO (es.take k) + sumO (es.drop k) := by unfold sumO; rw [← List.sum_append, ← List.map_append, List.take_append_drop]
  omega

set_option maxRecDepth 10000 in
set_option maxHeartbeats 1000000 in
theorem szFiles_any (A : Option Addr) (n c : Nat) (es : List Ent) (left : Int) (w : World) (hr : SlF w A n es) (hn : n ≤ maxLen) (hs : ∀ e ∈ es, e.nm.size ≤ maxLen ∧ e.d.n ≤ maxLen) (h0 : 0 ≤ left) (h1 : left ≤ 1048576) :
    Calls Try.prog 68 #[.slice A n c, .int .i64 left] w (Nums w (szI left (n + sumF es))) := by
  have HR := Lib.hid hr
  have HS := Lib.hid hs
  clear hr hs
  unfold maxLen at hn
  by_cases h : (n : Int) ≤ left
  · have h2 : 0 ≤ left - (n : Int) := by omega
    go_enter Try.func68, Try.ntmps68
    go_wp2
    go_loopw [1, 5] (fun t i wr => ∃ (k : Nat) (r : Int), k ≤ n ∧ i = .int .i64 k ∧ t = .int .i64 r ∧ Hid (r = left - n - sumF (es.take k)) ∧ 0 ≤ r ∧ r ≤ 1048576 ∧ Below w.heap.size w wr) (fun _ i _ => n - (intOf i).toNat)
    case atStart => exact ⟨0, _, Nat.zero_le _, rfl, rfl, Lib.hid (by simp [sumF]), h2, by omega, Below.refl _ _⟩
    case round =>
      obtain ⟨k, r, hk, rfl, rfl, hr, hr0, hr1, hbel⟩ := hrel
      by_cases hlt : k < n
      · obtain ⟨b, off, e, rfl, hbw, he, hok, c0, c1⟩ := HR.out.at_ hlt
        have c0 := (hbel.cell (p := ⟨b, off + k * 2, none⟩) hbw).trans c0
        have c1 := (hbel.cell (p := ⟨b, off + k * 2 + 1, none⟩) hbw).trans c1
        have hss := HS.out e (List.mem_of_getElem? he.out)
        have HB := Lib.hid hbel
        have HC := Lib.hid (szFile_any e.nm e.d.A e.d.n e.d.c r wr hss.1 hss.2 hr0 hr1)
        have HST := Lib.hid (sumF_step es k e he.out)
        have hsz : e.sz = e.nm.size + e.d.n := rfl
        have HLE := Lib.hid (sumF_le es (k + 1))
        have HSZ := Lib.hid hsz
        clear hss hbel hsz
        by_cases hfit : ((e.nm.size + e.d.n : Nat) : Int) ≤ r
        · rw [szI_pos hfit] at HC
          have hp : 0 ≤ r - ((e.nm.size + e.d.n : Nat) : Int) := by omega
          generalize hq : r - ((e.nm.size + e.d.n : Nat) : Int) = q at HC hp
          have HQ := Lib.hid hq
          clear hq hfit
          go_wp2_with fail
          refine HC.out.mono ?_
          rintro e1 w1 ⟨rfl, hb1⟩
          go_wp2
          go_roundw
          case rel => exact ⟨k + 1, q, by omega, by go_num, rfl, Lib.hid (by rw [HST.out, HSZ.out, ← HQ.out, hr.out]; omega), hp, by have := HQ.out; omega, HB.out.trans (hb1.mono HB.out.size)⟩
          case measure => simp [intOf]; omega
        · rw [szI_neg (by omega)] at HC
          have HV := Lib.hid (szI_neg (left := left) (n := n + sumF es) (by have := HST.out; have := HLE.out; have := HSZ.out; have := hr.out; omega))
          clear hfit
          go_wp2_with fail
          refine HC.out.mono ?_
          rintro e1 w1 ⟨rfl, hb1⟩
          go_wp2
          go_ret
          exact ⟨ret_int HV.out.symm, HB.out.trans (hb1.mono HB.out.size)⟩
      · have hkn : k = n := by omega
        have HV : Hid (r = szI left (n + sumF es)) := Lib.hid (by
          have e1 := hr.out
          rw [hkn, ← HR.out.len, List.take_length] at e1
          rw [szI_pos (by have := HR.out.len; omega)]
          have := HR.out.len
          omega)
        go_wp2
        go_ret
        exact ⟨ret_int HV.out, hbel⟩
  · have HV := Lib.hid (szI_neg (left := left) (n := n + sumF es) (by omega))
    have h2 : left - (n : Int) < 0 := by omega
    go_enter Try.func68, Try.ntmps68
    go_wp2
    go_ret
    exact ⟨ret_int HV.out.symm, Below.refl _ _⟩

set_option maxRecDepth 10000 in
set_option maxHeartbeats 1000000 in
theorem szOps_any (A : Option Addr) (n c : Nat) (es : List OpE) (left : Int) (w : World) (hr : SlO w A n es) (hn : n ≤ maxLen) (hs : ∀ e ∈ es, e.nm.size ≤ maxLen ∧ e.to.size ≤ maxLen ∧ e.d.n ≤ maxLen) (h0 : 0 ≤ left) (h1 : left ≤ 1048576) :
    Calls Try.prog 69 #[.slice A n c, .int .i64 left] w (Nums w (szI left (n + sumO es))) := by
  have HR := Lib.hid hr
  have HS := Lib.hid hs
  clear hr hs
  unfold maxLen at hn
  by_cases h : (n : Int) ≤ left
  · have h2 : 0 ≤ left - (n : Int) := by omega
    go_enter Try.func69, Try.ntmps69
    go_wp2
    go_loopw [1, 5] (fun t i wr => ∃ (k : Nat) (r : Int), k ≤ n ∧ i = .int .i64 k ∧ t = .int .i64 r ∧ Hid (r = left - n - sumO (es.take k)) ∧ 0 ≤ r ∧ r ≤ 1048576 ∧ Below w.heap.size w wr) (fun _ i _ => n - (intOf i).toNat)
    case atStart => exact ⟨0, _, Nat.zero_le _, rfl, rfl, Lib.hid (by simp [sumO]), h2, by omega, Below.refl _ _⟩
    case round =>
      obtain ⟨k, r, hk, rfl, rfl, hr, hr0, hr1, hbel⟩ := hrel
      by_cases hlt : k < n
      · obtain ⟨b, off, e, rfl, hbw, he, hok, c0, c1, c2, c3⟩ := HR.out.at_ hlt
        have c0 := (hbel.cell (p := ⟨b, off + k * 4, none⟩) hbw).trans c0
        have c1 := (hbel.cell (p := ⟨b, off + k * 4 + 1, none⟩) hbw).trans c1
        have c2 := (hbel.cell (p := ⟨b, off + k * 4 + 2, none⟩) hbw).trans c2
        have c3 := (hbel.cell (p := ⟨b, off + k * 4 + 3, none⟩) hbw).trans c3
        have hss := HS.out e (List.mem_of_getElem? he.out)
        have HB := Lib.hid hbel
        have HC := Lib.hid (szOp_any e.kind e.nm e.to e.d.A e.d.n e.d.c r wr hss.1 hss.2.1 hss.2.2 hr0 hr1)
        have HST := Lib.hid (sumO_step es k e he.out)
        have hsz : e.sz = e.nm.size + e.to.size + e.d.n := rfl
        have HLE := Lib.hid (sumO_le es (k + 1))
        have HSZ := Lib.hid hsz
        clear hss hbel hsz
        by_cases hfit : ((e.nm.size + e.to.size + e.d.n : Nat) : Int) ≤ r
        · rw [szI_pos hfit] at HC
          have hp : 0 ≤ r - ((e.nm.size + e.to.size + e.d.n : Nat) : Int) := by omega
          generalize hq : r - ((e.nm.size + e.to.size + e.d.n : Nat) : Int) = q at HC hp
          have HQ := Lib.hid hq
          clear hq hfit
          go_wp2_with fail
          refine HC.out.mono ?_
          rintro e1 w1 ⟨rfl, hb1⟩
          go_wp2
          go_roundw
          case rel => exact ⟨k + 1, q, by omega, by go_num, rfl, Lib.hid (by rw [HST.out, HSZ.out, ← HQ.out, hr.out]; omega), hp, by have := HQ.out; omega, HB.out.trans (hb1.mono HB.out.size)⟩
          case measure => simp [intOf]; omega
        · rw [szI_neg (by omega)] at HC
          have HV := Lib.hid (szI_neg (left := left) (n := n + sumO es) (by have := HST.out; have := HLE.out; have := HSZ.out; have := hr.out; omega))
          clear hfit
          go_wp2_with fail
          refine HC.out.mono ?_
          rintro e1 w1 ⟨rfl, hb1⟩
          go_wp2
          go_ret
          exact ⟨ret_int HV.out.symm, HB.out.trans (hb1.mono HB.out.size)⟩
      · have hkn : k = n := by omega
        have HV : Hid (r = szI left (n + sumO es)) := Lib.hid (by
          have e1 := hr.out
          rw [hkn, ← HR.out.len, List.take_length] at e1
          rw [szI_pos (by have := HR.out.len; omega)]
          have := HR.out.len
          omega)
        go_wp2
        go_ret
        exact ⟨ret_int HV.out, hbel⟩
  · have HV := Lib.hid (szI_neg (left := left) (n := n + sumO es) (by omega))
    have h2 : left - (n : Int) < 0 := by omega
    go_enter Try.func69, Try.ntmps69
    go_wp2
    go_ret
    exact ⟨ret_int HV.out.symm, Below.refl _ _⟩

set_option maxHeartbeats 1000000 in
theorem szDisk_any (room fuse : Int) (A B : Option Addr) (n c m d : Nat) (es : List Ent) (os : List OpE) (left : Int) (w : World) (hr : SlF w A n es) (hn : n ≤ maxLen) (hs : ∀ e ∈ es, e.nm.size ≤ maxLen ∧ e.d.n ≤ maxLen)
    (ho : SlO w B m os) (hm : m ≤ maxLen) (ht : ∀ e ∈ os, e.nm.size ≤ maxLen ∧ e.to.size ≤ maxLen ∧ e.d.n ≤ maxLen) (h0 : 0 ≤ left) (h1 : left ≤ 1048576) :
    Calls Try.prog 20 #[.agg #[.int .i64 room, .int .i64 fuse, .slice A n c, .slice B m d], .int .i64 left] w (Nums w (szI left (n + sumF es + (m + sumO os)))) := by
  have hal : ∀ o : Obj, Below w.heap.size w (w.alloc o) := fun o => (Below.refl _ _).alloc (Nat.le_refl _) o
  have C := Lib.hid (fun o => szFiles_any A n c es left (w.alloc o) (hr.below (hal o)) hn hs h0 h1)
  by_cases h : ((n + sumF es : Nat) : Int) ≤ left
  · rw [szI_pos h] at C
    have h2 : 0 ≤ left - ((n + sumF es : Nat) : Int) := by omega
    have D := Lib.hid (fun w' (hb : Below w.heap.size w w') => szOps_any B m d os (left - ((n + sumF es : Nat) : Int)) w' (ho.below hb) hm ht h2 (by omega))
    by_cases h3 : ((m + sumO os : Nat) : Int) ≤ left - ((n + sumF es : Nat) : Int)
    · rw [szI_pos h3] at D
      have HV := Lib.hid (szI_pos (left := left) (n := n + sumF es + (m + sumO os)) (by omega))
      have hp : 0 ≤ left - ((n + sumF es : Nat) : Int) - ((m + sumO os : Nat) : Int) := by omega
      have HQ : Hid (left - ((n + sumF es : Nat) : Int) - ((m + sumO os : Nat) : Int) = left - ((n + sumF es + (m + sumO os) : Nat) : Int)) := Lib.hid (by omega)
      generalize left - ((n + sumF es : Nat) : Int) - ((m + sumO os : Nat) : Int) = q at D hp HQ
      generalize left - ((n + sumF es : Nat) : Int) = p at C D h2
      clear h3 h hn hm hr ho hs ht
      go_enter Try.func20, Try.ntmps20
      go_wp2_with fail
      refine (C.out _).mono ?_
      rintro e w1 ⟨rfl, hb1⟩
      have hb2 := (hal _).trans (hb1.mono (by simp))
      have h2c := (hb1.cell (p := ⟨w.heap.size, 3, none⟩) (by simp))
      go_wp2_with fail
      refine (D.out w1 hb2).mono ?_
      rintro e w2 ⟨rfl, hb3⟩
      go_wp2
      go_ret
      exact ⟨ret_int (by rw [HV.out, HQ.out]), hb2.trans (hb3.mono hb2.size)⟩
    · rw [szI_neg (by omega)] at D
      have HV := Lib.hid (szI_neg (left := left) (n := n + sumF es + (m + sumO os)) (by omega))
      generalize left - ((n + sumF es : Nat) : Int) = p at C D h2
      clear h3 h hn hm hr ho hs ht
      go_enter Try.func20, Try.ntmps20
      go_wp2_with fail
      refine (C.out _).mono ?_
      rintro e w1 ⟨rfl, hb1⟩
      have hb2 := (hal _).trans (hb1.mono (by simp))
      have h2c := (hb1.cell (p := ⟨w.heap.size, 3, none⟩) (by simp))
      go_wp2_with fail
      refine (D.out w1 hb2).mono ?_
      rintro e w2 ⟨rfl, hb3⟩
      go_wp2
      go_ret
      exact ⟨ret_int HV.out.symm, hb2.trans (hb3.mono hb2.size)⟩
  · rw [szI_neg (by omega)] at C
    have HV := Lib.hid (szI_neg (left := left) (n := n + sumF es + (m + sumO os)) (by omega))
    clear h hn hm hr ho hs ht
    go_enter Try.func20, Try.ntmps20
    go_wp2_with fail
    refine (C.out _).mono ?_
    rintro e w1 ⟨rfl, hb1⟩
    go_wp2
    go_ret
    exact ⟨ret_int HV.out.symm, (hal _).trans (hb1.mono (by simp))⟩
end Go.Proofs.Ytdeijiochianpaa
