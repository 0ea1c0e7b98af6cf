/- The contracts of the model's small functions on lists of files. Condition: at most 2^20 files. -/
import Derived.Test.YtfcomnpoehpgiaaDiskMath
import Derived.Test.YtfcomnpoehpgiaaTo
import Derived.Test.YtfcomnpoehpgiaaSz
import Derived.Test.YtfcomnpoehpgiaaOpOk
import Derived.Test.YtfcomnpoehpgiaaPutMath
namespace Go.Proofs.Ytfcomnpoehpgiaa
open Go.RowKit

theorem toList_inj {a b : ByteArray} (h : a.toList = b.toList) : a = b := by
  rw [ByteArray.toList_eq, ByteArray.toList_eq] at h
  exact ByteArray.ext (Array.ext' h)
theorem str_ne {a b : ByteArray} (h : a ≠ b) : (a.toList == b.toList) = false := by
  simp only [beq_eq_false_iff_ne, ne_eq]
  exact fun e => h (toList_inj e)
theorem str_ne' {a b : ByteArray} (h : a ≠ b) : (a.toList != b.toList) = true := by
  simp only [bne_iff_ne, ne_eq]
  exact fun e => h (toList_inj e)
theorem str_eq {a b : ByteArray} (h : a = b) : (a.toList == b.toList) = true := by rw [h]; simp
theorem str_eq' {a b : ByteArray} (h : a = b) : (a.toList != b.toList) = false := by rw [h]; simp

def ixE (s : ByteArray) (l : List Ent) : Nat := l.findIdx fun e => decide (e.nm = s)
def atI (s : ByteArray) (l : List Ent) : Int := if hasK Ent.nm s l then (ixE s l : Int) else -1
theorem ixE_at {s : ByteArray} {l : List Ent} {k : Nat} {e : Ent} (hk : l[k]? = some e) (he : e.nm = s) (hall : ∀ (j : Nat) (x : Ent), j < k → l[j]? = some x → x.nm ≠ s) : atI s l = (k : Int) := by
  have h1 : hasK Ent.nm s l = true := by
    unfold hasK
    rw [List.any_eq_true]
    exact ⟨e, List.mem_of_getElem? hk, by simp [he]⟩
  unfold atI
  rw [if_pos h1]
  obtain ⟨hkl, hke⟩ := List.getElem?_eq_some_iff.1 hk
  have : ixE s l = k := by
    unfold ixE
    rw [List.findIdx_eq hkl]
    refine ⟨by simp [hke, he], fun j hj => ?_⟩
    have := hall j (l[j]'(by omega)) hj (List.getElem?_eq_getElem (by omega))
    simpa using this
  rw [this]
theorem ixE_none {s : ByteArray} {l : List Ent} (hall : ∀ (j : Nat) (x : Ent), l[j]? = some x → x.nm ≠ s) : atI s l = -1 := by
  have h1 : hasK Ent.nm s l = false := by
    unfold hasK
    rw [List.any_eq_false]
    intro e he
    obtain ⟨j, hj, rfl⟩ := List.getElem_of_mem he
    simpa using hall j _ (List.getElem?_eq_getElem hj)
  unfold atI
  rw [h1]
  rfl

set_option maxRecDepth 10000 in
set_option maxHeartbeats 1000000 in
theorem specAt (A : Option Addr) (n c : Nat) (es : List Ent) (s : ByteArray) (w : World) (hr : SlF w A n es) (hn : n ≤ 2097152) :
    Calls Try.prog 85 #[.slice A n c, .string s] w (Nums w (atI s es)) := by
  have HR := Lib.hid hr
  clear hr
  go_enter Try.func85, Try.ntmps85
  go_wp2
  go_loopw [9] (fun i wr => ∃ k : Nat, k ≤ n ∧ i = .int .i64 k ∧ Hid (∀ (j : Nat) (x : Ent), j < k → es[j]? = some x → x.nm ≠ s) ∧ Below w.heap.size w wr) (fun i _ => n - (intOf i).toNat)
  case atStart => exact ⟨0, Nat.zero_le _, rfl, Lib.hid (fun j x hj => absurd hj (by omega)), Below.refl _ _⟩
  case round =>
    obtain ⟨k, hk, rfl, hall, hbel⟩ := hrel
    by_cases hlt : k < n
    · obtain ⟨b, off, e, rfl, hbw, he, hok, c0, c1⟩ := HR.out.at_ hlt
      have c0 := (hbel.cell (p := ⟨b, off + k * 2, none⟩) hbw).trans c0
      have c1 := (hbel.cell (p := ⟨b, off + k * 2 + 1, none⟩) hbw).trans c1
      by_cases hnm : e.nm = s
      · have HV := Lib.hid (ixE_at he.out hnm hall.out)
        have hq := str_eq hnm
        have HB := Lib.hid hbel
        clear hbel hnm
        go_wp2
        go_ret
        exact ⟨ret_int HV.out.symm, HB.out.alloc HB.out.size _⟩
      · have hq := str_ne hnm
        have hnew : Hid (∀ (j : Nat) (x : Ent), j < k + 1 → es[j]? = some x → x.nm ≠ s) := Lib.hid (fun j x hj hx => by
          rcases Nat.lt_or_ge j k with h1 | h1
          · exact hall.out j x h1 hx
          · obtain rfl : j = k := by omega
            rw [he.out] at hx
            injection hx with hx
            rw [← hx]
            exact hnm)
        have HB := Lib.hid hbel
        clear hbel hnm
        go_wp2
        go_roundw
        case rel => exact ⟨k + 1, by omega, by go_num, hnew, HB.out.alloc HB.out.size _⟩
        case measure => simp [intOf]; omega
    · have HV := Lib.hid (ixE_none (s := s) (l := es) (fun j x hx => hall.out j x (by have := (List.getElem?_eq_some_iff.1 hx).1; have := HR.out.len; omega) hx))
      go_wp2
      go_ret
      exact ⟨ret_int HV.out.symm, hbel⟩

def totE (es : List Ent) : Nat := (es.map fun e => e.d.n).sum
theorem totE_step (es : List Ent) (k : Nat) (e : Ent) (h : es[k]? = some e) : totE (es.take (k + 1)) = totE (es.take k) + e.d.n := by
  rw [take_step es k e h]
  simp [totE]
theorem totE_le (es : List Ent) (k : Nat) : totE (es.take k) ≤ totE es := by
  have : totE es = totE (es.take k) + totE (es.drop k) := by unfold totE; rw [← List.sum_append, ← List.map_append, List.take_append_drop]
  omega
theorem totE_file {w : World} : ∀ (es : List Ent), (∀ e ∈ es, e.d.Ok w) → totE es = totF (es.map Ent.file)
  | [], _ => rfl
  | e :: r, h => by
    have := totE_file r (fun x hx => h x (by simp [hx]))
    have h2 := (h e (by simp)).rd.len
    simp only [totE, totF, List.map_cons, List.sum_cons, Ent.file] at *
    omega

set_option maxRecDepth 10000 in
set_option maxHeartbeats 1000000 in
theorem specBytes (A : Option Addr) (n c : Nat) (es : List Ent) (w : World) (hr : SlF w A n es) (hn : n ≤ 2097152) (ht : totE es ≤ 16777216) :
    Calls Try.prog 68 #[.slice A n c] w (Nums w (totE es)) := by
  have HR := Lib.hid hr
  clear hr
  go_enter Try.func68, Try.ntmps68
  go_wp2
  go_loopw [3, 8] (fun t i wr => ∃ k q : Nat, k ≤ n ∧ i = .int .i64 k ∧ t = .int .i64 (q : Int) ∧ Hid (q = totE (es.take k)) ∧ Below w.heap.size w wr) (fun _ i _ => n - (intOf i).toNat)
  case atStart => exact ⟨0, 0, Nat.zero_le _, rfl, rfl, Lib.hid rfl, Below.refl _ _⟩
  case round =>
    obtain ⟨k, q, hk, rfl, rfl, hq, hbel⟩ := hrel
    by_cases hlt : k < n
    · obtain ⟨b, off, e, rfl, hbw, he, hok, c0, c1⟩ := HR.out.at_ hlt
      have c0 := (hbel.cell (p := ⟨b, off + k * 2, none⟩) hbw).trans c0
      have c1 := (hbel.cell (p := ⟨b, off + k * 2 + 1, none⟩) hbw).trans c1
      have hst : q + e.d.n ≤ 16777216 := by
        have h1 := totE_step es k e he.out
        have h2 := totE_le es (k + 1)
        have h3 := hq.out
        omega
      have HST := Lib.hid (totE_step es k e he.out)
      have HB := Lib.hid hbel
      clear hbel
      go_wp2
      go_roundw
      case rel => exact ⟨k + 1, q + e.d.n, by omega, by go_num, by go_num, Lib.hid (by rw [HST.out, hq.out]), HB.out.alloc HB.out.size _⟩
      case measure => simp [intOf]; omega
    · have HV : Hid ((q : Int) = totE es) := Lib.hid (by
        have h1 := hq.out
        rw [List.take_of_length_le (by have := HR.out.len; omega)] at h1
        omega)
      go_wp2
      go_ret
      exact ⟨ret_int HV.out, hbel⟩

theorem two_reads (w : World) (u v : Value) (t : TypeId) (g : Nat) (hg : g = w.heap.size) : Reads (w.alloc (.cells #[u, v] t)) (g + 1) 2 (some ⟨g, 0, none⟩) 1 [u, v] := by
  subst hg
  refine ⟨rfl, fun _ => ⟨_, rfl, by simp, fun j x hj => ?_⟩⟩
  match j, hj with
  | 0, hj => simp at hj; subst hj; simp [Addr.add]
  | 1, hj => simp at hj; subst hj; simp [Addr.add]
theorem four_reads (w : World) (u v x y : Value) (t : TypeId) (g : Nat) (hg : g = w.heap.size) : Reads (w.alloc (.cells #[u, v, x, y] t)) (g + 1) 4 (some ⟨g, 0, none⟩) 1 [u, v, x, y] := by
  subst hg
  refine ⟨rfl, fun _ => ⟨_, rfl, by simp, fun j z hj => ?_⟩⟩
  match j, hj with
  | 0, hj => simp at hj; subst hj; simp [Addr.add]
  | 1, hj => simp at hj; subst hj; simp [Addr.add]
  | 2, hj => simp at hj; subst hj; simp [Addr.add]
  | 3, hj => simp at hj; subst hj; simp [Addr.add]
theorem Ent.cells_one (e : Ent) : ∀ u ∈ e.cells, u.oneCell' = true := by
  intro u hu
  simp only [Ent.cells, List.mem_cons, List.not_mem_nil, or_false] at hu
  rcases hu with rfl | rfl <;> rfl
theorem OpE.cells_one (e : OpE) : ∀ u ∈ e.cells, u.oneCell' = true := by
  intro u hu
  simp only [OpE.cells, List.mem_cons, List.not_mem_nil, or_false] at hu
  rcases hu with rfl | rfl | rfl | rfl <;> rfl
theorem below_app2 {w wr w2 : World} {e n size : Nat} {v : Value} {xs : List Value} {o1 o2 : Obj} (hbel : Below w.heap.size w wr) (hown : wr.ownsRow w.heap.size e size v n xs) (hg : ((wr.alloc o1).alloc o2).grownBy w2 v.ownBlock) : Below w.heap.size w w2 :=
  ((hbel.alloc hbel.size o1).alloc (by have := hbel.size; simp; omega) o2).grown hg (by have := hbel.size; simp; omega) (fun k hk => (hown.lt k hk).1)
theorem below_app1 {w wr w2 : World} {e n size : Nat} {v : Value} {xs : List Value} {o1 : Obj} (hbel : Below w.heap.size w wr) (hown : wr.ownsRow w.heap.size e size v n xs) (hg : (wr.alloc o1).grownBy w2 v.ownBlock) : Below w.heap.size w w2 :=
  (hbel.alloc hbel.size o1).grown hg (by have := hbel.size; simp; omega) (fun k hk => (hown.lt k hk).1)
theorem own_formK {w : World} {base e size n : Nat} {v : Value} {xs : List Value} (h : w.ownsRow base e size v n xs) : ∃ A c, v = .slice A n c := by
  rcases h.2 with ⟨rfl, rfl⟩ | ⟨g, cap, _, rfl, _⟩
  · exact ⟨_, _, rfl⟩
  · exact ⟨_, _, rfl⟩
theorem builtF_none (w : World) : (w.alloc (.cells #[] 93)).ownsRow w.heap.size 93 2 (.slice (some ⟨w.heap.size, 0, none⟩) 0 0) 0 [] :=
  World.ownsRow_lit w #[] 0 (Nat.le_refl _) (by unfold maxLen; omega) rfl

/-- A list of files that the model gives. -/
def GivesF (w : World) (es : List Ent) (e : Ending) (w' : World) : Prop :=
  ∃ A c, e = .returned (.slice A es.length c) ∧ w'.ownsRow w.heap.size 93 2 (.slice A es.length c) es.length (es.flatMap Ent.cells) ∧ Below w.heap.size w w'

theorem less_step_no {es : List Ent} {k : Nat} {e : Ent} {s : ByteArray} (h : es[k]? = some e) (hn : e.nm = s) : lessK Ent.nm s (es.take (k + 1)) = lessK Ent.nm s (es.take k) := by
  rw [take_step es k e h]
  simp [lessK, hn]
theorem less_step_yes {es : List Ent} {k : Nat} {e : Ent} {s : ByteArray} (h : es[k]? = some e) (hn : e.nm ≠ s) : lessK Ent.nm s (es.take (k + 1)) = lessK Ent.nm s (es.take k) ++ [e] := by
  rw [take_step es k e h]
  simp [lessK, hn]
theorem less_take_len (es : List Ent) (s : ByteArray) (k : Nat) : (lessK Ent.nm s (es.take k)).length ≤ k := by
  have h1 := lessK_len (key := Ent.nm) s (es.take k)
  have h2 := List.length_take_le k es
  omega

set_option maxRecDepth 10000 in
set_option maxHeartbeats 1000000 in
theorem specLess (A : Option Addr) (n c : Nat) (es : List Ent) (s : ByteArray) (w : World) (hr : SlF w A n es) (hn : n ≤ 1048576) :
    Calls Try.prog 100 #[.slice A n c, .string s] w (GivesF w (lessK Ent.nm s es)) := by
  obtain ⟨i0, hi, hz0, hz1, hz2⟩ := info_parts Try.infoFile
  have HR := Lib.hid hr
  clear hr
  go_enter Try.func100, Try.ntmps100
  go_wp2
  go_loopw [5, 11] (fun v i wr => ∃ (k : Nat) (out : List Ent), k ≤ n ∧ i = .int .i64 k ∧ Hid (out = lessK Ent.nm s (es.take k)) ∧ wr.ownsRow w.heap.size 93 2 v out.length (out.flatMap Ent.cells) ∧ Below w.heap.size w wr) (fun _ i _ => n - (intOf i).toNat)
  case atStart => exact ⟨0, [], Nat.zero_le _, rfl, Lib.hid rfl, builtF_none w, below_a1 _ _⟩
  case round =>
    obtain ⟨k, out, hk, rfl, hout, hown, hbel⟩ := hrel
    have hol : out.length ≤ k := by rw [hout.out]; exact less_take_len es s k
    by_cases hlt : k < n
    · obtain ⟨b, off, e, rfl, hbw, he, hok, c0, c1⟩ := HR.out.at_ hlt
      have c0 := (hbel.cell (p := ⟨b, off + k * 2, none⟩) hbw).trans c0
      have c1 := (hbel.cell (p := ⟨b, off + k * 2 + 1, none⟩) hbw).trans c1
      by_cases hnm : e.nm = s
      · have hq := str_eq hnm
        have hst := Lib.hid (less_step_no he.out hnm)
        have HB := Lib.hid hbel
        have HO := Lib.hid hown
        clear hbel hnm hown
        go_wp2
        go_roundw
        case rel => exact ⟨k + 1, out, by omega, by go_num, Lib.hid (by rw [hst.out, hout.out]), HO.out.alloc _, HB.out.alloc HB.out.size _⟩
        case measure => simp [intOf]; omega
      · have hq := str_ne hnm
        have hst := Lib.hid (less_step_yes he.out hnm)
        have HB := Lib.hid hbel
        have HO := Lib.hid hown
        have hws : w.heap.size ≤ wr.heap.size := hbel.size
        clear hbel hnm hown
        go_wp2_with (at_builtin; refine wpList_append_any _ rfl (.tmp 19) (.tmp 21) _ rfl w.heap.size 93 i0 _ 2 40 Try.underlying23 hi hz0 hz1 hz2 rfl (by omega) _ out.length (out.flatMap Ent.cells) rfl ((HO.out.alloc _).alloc _) ((wr.heap.size + 1) + 1) (some ⟨wr.heap.size + 1, 0, none⟩) 1 1 e.cells rfl (two_reads _ _ _ _ _ (by simp)) e.cells_one (by simp only [maxLen]; omega) (by omega) (by simp; omega) ?_; intro v2 w2 hown2 hg2 hat2)
        have hb2 : Below w.heap.size w w2 := below_app2 HB.out HO.out hg2
        have ho2 : w2.ownsRow w.heap.size 93 2 v2 (out ++ [e]).length ((out ++ [e]).flatMap Ent.cells) := by
          rw [flat_snoc, List.length_append]
          exact hown2
        clear hown2 hg2 hat2
        go_roundw
        case rel => exact ⟨k + 1, out ++ [e], by omega, by go_num, Lib.hid (by rw [hst.out, hout.out]), ho2, hb2⟩
        case measure => simp [intOf]; omega
    · have he : out = lessK Ent.nm s es := by rw [hout.out, List.take_of_length_le (by have := HR.out.len; omega)]
      obtain ⟨A2, c2, rfl⟩ := own_formK hown
      subst he
      go_wp2
      go_ret
      exact ⟨A2, c2, rfl, hown, hbel⟩
end Go.Proofs.Ytfcomnpoehpgiaa
