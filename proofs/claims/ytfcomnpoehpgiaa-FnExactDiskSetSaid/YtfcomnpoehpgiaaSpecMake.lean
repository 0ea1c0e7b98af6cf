/- The contracts of the model's functions that ask whether an operation fits and that do it. -/
import Derived.Test.YtfcomnpoehpgiaaSpecWith
import Derived.Test.YtfcomnpoehpgiaaRes
import Derived.Test.YtfcomnpoehpgiaaAppendFull
import Derived.Deep.RegionHeld3
import Derived.Deep.RegionLaw
namespace Go.Proofs.Ytfcomnpoehpgiaa
open Go.RowKit

theorem hasF_ents (s : ByteArray) (es : List Ent) : hasF s (es.map Ent.file) = hasK Ent.nm s es := hasK_map (f := Ent.file) (fun _ => rfl) s es
theorem atI_nonneg (s : ByteArray) (es : List Ent) : decide (0 ≤ atI s es) = hasK Ent.nm s es := by
  unfold atI
  split
  · rename_i h
    rw [h]
    simp
  · rename_i h
    have : hasK Ent.nm s es = false := by simpa using h
    rw [this]
    decide

set_option maxRecDepth 10000 in
set_option maxHeartbeats 1000000 in
theorem specFits (A : Option Addr) (n c : Nat) (es : List Ent) (o : OpE) (w : World) (hr : SlF w A n es) (hn : n ≤ 2097152) :
    Calls Try.prog 67 #[.slice A n c, .agg #[.int .i64 o.kind, .string o.nm, .string o.to, .slice o.d.A o.d.n o.d.c]] w (Tells w (fitsF (es.map Ent.file) o.op)) := by
  have C := Lib.hid (fun W (h : Below w.heap.size w W) => specAt A n c es o.nm W (hr.below h) hn)
  have HD := Lib.hid (atI_nonneg o.nm es)
  have hl : (es.map Ent.file).length = n := by rw [List.length_map]; exact hr.len
  have hhas := hasF_ents o.nm es
  obtain ⟨kind, nm, to, d⟩ := o
  simp only [OpE.op] at *
  by_cases h1 : kind = 1
  · have HV : Hid (fitsF (es.map Ent.file) (kind, nm, to, d.xs) = (hasK Ent.nm nm es || decide (n < 12))) := Lib.hid (by simp only [fitsF, h1, if_true, hhas, hl])
    subst h1
    have HD2 := HD.out
    generalize hasK Ent.nm nm es = b at HV HD2
    generalize atI nm es = q at C HD2
    clear hr hl hhas HD
    cases b with
    | true =>
      have hq : 0 ≤ q := by simpa using HD2
      clear HD2
      go_enter Try.func67, Try.ntmps67
      go_wp2_with fail
      refine (C.out _ (below_a1 _ _)).mono ?_
      rintro e w1 ⟨rfl, hb1⟩
      obtain ⟨hc, hf⟩ := bcell hb1
      go_wp2
      go_ret
      exact ⟨ret_bool (by rw [HV.out]; simp), (below_a1 _ _).trans (hb1.mono (by simp))⟩
    | false =>
      have hq : q < 0 := by simpa using HD2
      clear HD2
      go_enter Try.func67, Try.ntmps67
      go_wp2_with fail
      refine (C.out _ (below_a1 _ _)).mono ?_
      rintro e w1 ⟨rfl, hb1⟩
      obtain ⟨hc, hf⟩ := bcell hb1
      go_wp2
      go_ret
      exact ⟨ret_bool (by rw [HV.out, Bool.eq_iff_iff]; simp; omega), (below_a1 _ _).trans (hb1.mono (by simp))⟩
  · have e1 : (kind == 1) = false := by simpa using h1
    by_cases h3 : kind = 3
    · subst h3
      have HV : Hid (fitsF (es.map Ent.file) (3, nm, to, d.xs) = (hasK Ent.nm nm es && decide (to ≠ nm))) := Lib.hid (by simp [fitsF, hhas])
      have HD2 := HD.out
      generalize hasK Ent.nm nm es = b at HV HD2
      generalize atI nm es = q at C HD2
      clear hr hl hhas HD e1 h1
      cases b with
      | true =>
        have hq : 0 ≤ q := by simpa using HD2
        by_cases ht : to = nm
        · have hs := str_eq ht
          have HT := Lib.hid ht
          clear HD2 ht
          go_enter Try.func67, Try.ntmps67
          go_wp2_with fail
          refine (C.out _ (below_a1 _ _)).mono ?_
          rintro e w1 ⟨rfl, hb1⟩
          obtain ⟨hc, hf⟩ := bcell hb1
          go_wp2
          go_ret
          exact ⟨ret_bool (by rw [HV.out]; simp [HT.out]), (below_a1 _ _).trans (hb1.mono (by simp))⟩
        · have hs := str_ne ht
          have HT := Lib.hid ht
          clear HD2 ht
          go_enter Try.func67, Try.ntmps67
          go_wp2_with fail
          refine (C.out _ (below_a1 _ _)).mono ?_
          rintro e w1 ⟨rfl, hb1⟩
          obtain ⟨hc, hf⟩ := bcell hb1
          go_wp2
          go_ret
          exact ⟨ret_bool (by rw [HV.out]; simp [HT.out]), (below_a1 _ _).trans (hb1.mono (by simp))⟩
      | false =>
        have hq : q < 0 := by simpa using HD2
        clear HD2
        go_enter Try.func67, Try.ntmps67
        go_wp2_with fail
        refine (C.out _ (below_a1 _ _)).mono ?_
        rintro e w1 ⟨rfl, hb1⟩
        obtain ⟨hc, hf⟩ := bcell hb1
        go_wp2
        go_ret
        exact ⟨ret_bool (by rw [HV.out]; simp), (below_a1 _ _).trans (hb1.mono (by simp))⟩
    · have e3 : (kind == 3) = false := by simpa using h3
      have HV : Hid (fitsF (es.map Ent.file) (kind, nm, to, d.xs) = hasK Ent.nm nm es) := Lib.hid (by simp only [fitsF, h1, if_false, h3, hhas])
      have HD2 := HD.out
      generalize hasK Ent.nm nm es = b at HV HD2
      generalize atI nm es = q at C HD2
      clear hr hl hhas HD h1 h3
      cases b with
      | true =>
        have hq : 0 ≤ q := by simpa using HD2
        clear HD2
        go_enter Try.func67, Try.ntmps67
        go_wp2_with fail
        refine (C.out _ (below_a1 _ _)).mono ?_
        rintro e w1 ⟨rfl, hb1⟩
        obtain ⟨hc, hf⟩ := bcell hb1
        go_wp2
        go_ret
        exact ⟨ret_bool (by rw [HV.out]), (below_a1 _ _).trans (hb1.mono (by simp))⟩
      | false =>
        have hq : q < 0 := by simpa using HD2
        clear HD2
        go_enter Try.func67, Try.ntmps67
        go_wp2_with fail
        refine (C.out _ (below_a1 _ _)).mono ?_
        rintro e w1 ⟨rfl, hb1⟩
        obtain ⟨hc, hf⟩ := bcell hb1
        go_wp2
        go_ret
        exact ⟨ret_bool (by rw [HV.out]; simp; omega), (below_a1 _ _).trans (hb1.mono (by simp))⟩

theorem has_at (s : ByteArray) : ∀ (es : List Ent), hasK Ent.nm s es = true → ∃ (k : Nat) (e : Ent), es[k]? = some e ∧ e.nm = s ∧ (∀ (j : Nat) (x : Ent), j < k → es[j]? = some x → x.nm ≠ s) ∧ findK Ent.nm s es = some e
  | [], h => by simp [hasK] at h
  | a :: r, h => by
    by_cases ha : a.nm = s
    · exact ⟨0, a, rfl, ha, fun j x hj => absurd hj (by omega), by simp [findK, ha]⟩
    · have h2 : hasK Ent.nm s r = true := by simpa [hasK, ha] using h
      obtain ⟨k, e, h3, h4, h5, h6⟩ := has_at s r h2
      refine ⟨k + 1, e, by simpa using h3, h4, fun j x hj hx => ?_, by simpa [findK, ha] using h6⟩
      cases j with
      | zero => simp at hx; subst hx; exact ha
      | succ i => exact h5 i x (by omega) (by simpa using hx)
theorem dataF_at {s : ByteArray} {es : List Ent} {e : Ent} (h : findK Ent.nm s es = some e) : dataF s (es.map Ent.file) = e.d.xs := by
  unfold dataF
  rw [findK_map (f := Ent.file) (key := Ent.nm) (fun _ => rfl), h]
  rfl

/-- A list of files that the model gives, as data. -/
def SeesF (w : World) (fs : List FileD) (e : Ending) (w' : World) : Prop :=
  ∃ A c es, e = .returned (.slice A es.length c) ∧ es.map Ent.file = fs ∧ SlF w' A es.length es ∧ Below w.heap.size w w'

theorem GivesF.sees {w : World} {es : List Ent} {e : Ending} {w' : World} (h : GivesF w es e w') (ho : ∀ x ∈ es, x.d.Ok w) {fs : List FileD} (hf : es.map Ent.file = fs) : SeesF w fs e w' := by
  obtain ⟨A, c, he, hr, hb⟩ := h
  exact ⟨A, c, es, he, hf, sl_of_own hr (fun x hx => (ho x hx).below hb), hb⟩

theorem withK_ok {w : World} {x : Ent} {es : List Ent} (hx : x.d.Ok w) (he : ∀ e ∈ es, e.d.Ok w) : ∀ e ∈ withK Ent.nm x es, e.d.Ok w := fun e h => by
  rcases insK_mem.1 h with rfl | h
  · exact hx
  · exact he e (lessK_mem h).1

set_option maxRecDepth 10000 in
set_option maxHeartbeats 1000000 in
theorem specMake_1 (A : Option Addr) (n c : Nat) (es : List Ent) (nm to : ByteArray) (d : Dat) (w : World) (hr : SlF w A n es) (hn : n ≤ 524288) :
    Calls Try.prog 77 #[.slice A n c, .agg #[.int .i64 1, .string nm, .string to, .slice d.A d.n d.c]] w (SeesF w (makeF (es.map Ent.file) (1, nm, to, d.xs))) := by
  have C := Lib.hid (fun W (h : Below w.heap.size w W) => specWith A n c es ⟨nm, ⟨none, 0, 0, []⟩⟩ W (hr.below h) hn)
  have HK := Lib.hid (withK_ok (x := ⟨nm, ⟨none, 0, 0, []⟩⟩) (w := w) ⟨Rd.nil, Nat.le_refl _⟩ hr.each)
  have HV : Hid (makeF (es.map Ent.file) (1, nm, to, d.xs) = (withK Ent.nm ⟨nm, ⟨none, 0, 0, []⟩⟩ es).map Ent.file) := Lib.hid (by rw [withK_map (f := Ent.file) (key := Ent.nm) (key' := Prod.fst) (fun _ => rfl)]; rfl)
  clear hr
  go_enter Try.func77, Try.ntmps77
  go_wp2_with fail
  refine (C.out _ (below_a1 _ _)).mono ?_
  rintro e w1 ⟨A1, c1, rfl, ho1, hb1⟩
  go_wp2
  go_ret
  have hb := (below_a1 w _).trans (hb1.mono (by simp))
  exact ⟨A1, c1, _, rfl, HV.out.symm, sl_of_own ho1 (fun x hx => (HK.out x hx).below hb), hb⟩

set_option maxRecDepth 10000 in
set_option maxHeartbeats 1000000 in
theorem specMake_4 (A : Option Addr) (n c : Nat) (es : List Ent) (kind : Int) (nm to : ByteArray) (d : Dat) (w : World) (hr : SlF w A n es) (hn : n ≤ 524288) (h1 : kind ≠ 1) (h2 : kind ≠ 2) (h3 : kind ≠ 3) :
    Calls Try.prog 77 #[.slice A n c, .agg #[.int .i64 kind, .string nm, .string to, .slice d.A d.n d.c]] w (SeesF w (makeF (es.map Ent.file) (kind, nm, to, d.xs))) := by
  have C := Lib.hid (fun W (h : Below w.heap.size w W) => specLess A n c es nm W (hr.below h) (by omega))
  have HK := Lib.hid (fun e (he : e ∈ lessK Ent.nm nm es) => hr.each e (lessK_mem he).1)
  have HV : Hid (makeF (es.map Ent.file) (kind, nm, to, d.xs) = (lessK Ent.nm nm es).map Ent.file) := Lib.hid (by rw [lessK_map (f := Ent.file) (key := Ent.nm) (key' := Prod.fst) (fun _ => rfl)]; simp only [makeF, if_neg h1, if_neg h2, if_neg h3]; rfl)
  have e1 : (kind == 1) = false := by simpa using h1
  have e2 : (kind == 2) = false := by simpa using h2
  have e3 : (kind == 3) = false := by simpa using h3
  clear hr h1 h2 h3
  go_enter Try.func77, Try.ntmps77
  go_wp2_with fail
  refine (C.out _ (below_a1 _ _)).mono ?_
  rintro e w1 ⟨A1, c1, rfl, ho1, hb1⟩
  go_wp2
  go_ret
  have hb := (below_a1 w _).trans (hb1.mono (by simp))
  exact ⟨A1, c1, _, rfl, HV.out.symm, sl_of_own ho1 (fun x hx => (HK.out x hx).below hb), hb⟩

set_option maxRecDepth 10000 in
set_option maxHeartbeats 2000000 in
theorem specMake_2 (A : Option Addr) (n c : Nat) (es : List Ent) (nm to : ByteArray) (d : Dat) (w : World) (hr : SlF w A n es) (hn : n ≤ 524288) (hd : d.Ok w) (hh : hasK Ent.nm nm es = true) (hs : ∀ e ∈ es, e.d.n ≤ 1048576) (hs2 : d.n ≤ 1048576) :
    Calls Try.prog 77 #[.slice A n c, .agg #[.int .i64 2, .string nm, .string to, .slice d.A d.n d.c]] w (SeesF w (makeF (es.map Ent.file) (2, nm, to, d.xs))) := by
  obtain ⟨i0, hi, hz0, hz1, hz2⟩ := info_parts Try.infoByte
  obtain ⟨k, e, hk, he, hall, hfind⟩ := has_at nm es hh
  have hat := ixE_at hk he hall
  have C := Lib.hid (fun W (h : Below w.heap.size w W) => specAt A n c es nm W (hr.below h) (by omega))
  rw [hat] at C
  have hkn : k < n := by have := (List.getElem?_eq_some_iff.1 hk).1; have := hr.len; omega
  have D0 : ∀ W (_ : Below w.heap.size w W) (A2 : Option Addr) (n2 c2 : Nat) (xs2 : List Nat), Calls Try.prog 99 #[.slice A n c, .agg #[.string nm, .slice A2 n2 c2]] W (GivesF W (withK Ent.nm ⟨nm, ⟨A2, n2, c2, xs2⟩⟩ es)) := fun W h A2 n2 c2 xs2 => specWith A n c es ⟨nm, ⟨A2, n2, c2, xs2⟩⟩ W (hr.below h) hn
  have D := Lib.hid D0
  clear D0
  have HE := Lib.hid hr.each
  have HEO := Lib.hid (hr.each e (List.mem_of_getElem? hk))
  have hen := hs e (List.mem_of_getElem? hk)
  have HD := Lib.hid hd
  have HV : Hid (∀ y : Ent, y.nm = nm → y.d.xs = e.d.xs ++ d.xs → makeF (es.map Ent.file) (2, nm, to, d.xs) = (withK Ent.nm y es).map Ent.file) := Lib.hid (fun y h1 h2 => by
    rw [withK_map (f := Ent.file) (key := Ent.nm) (key' := Prod.fst) (fun _ => rfl)]
    simp only [makeF, withF, dataF_at hfind, Ent.file, h1, h2]
    rfl)
  obtain ⟨b, off, e0, rfl, hbw, he0, hok0, c0, c1⟩ := hr.at_ hkn
  have hee : e0 = e := by have := he0.out; rw [hk] at this; injection this with this; exact this.symm
  subst hee
  have HAT := Lib.hid hr.len
  clear hr hs hd hh hat hall hk he hfind he0 hok0 c0
  go_enter Try.func77, Try.ntmps77
  go_wp2_with fail
  refine (C.out _ (below_a1 _ _)).mono ?_
  rintro e1 w1 ⟨rfl, hb1⟩
  have HB1 := Lib.hid ((below_a1 w _).trans (hb1.mono (by simp)))
  have c1 := (HB1.out.cell (p := ⟨b, off + k * 2 + 1, none⟩) hbw).trans c1
  obtain ⟨l4, b0, b1, b2, b3⟩ := (Box4.new w (.int .i64 2) (.string nm) (.string to) (.slice d.A d.n d.c) 30).below hb1
  have hw1 : w.heap.size < w1.heap.size := l4
  have hbw1 : b < w1.heap.size := by have := HB1.out.size; omega
  clear hb1
  go_wp2
  go_region_held3 (fun W => W.cell? ⟨w.heap.size, 1, none⟩ = some (.string nm) ∧ W.cell? ⟨w.heap.size, 3, none⟩ = some (.slice d.A d.n d.c))
    (first
      | go_keep
      | (exact ⟨(hb9.cell (p := ⟨w.heap.size, 1, none⟩) (by omega)).trans (by simp [*]), (hb9.cell (p := ⟨w.heap.size, 3, none⟩) (by omega)).trans (by simp [*])⟩)
      | (exact ⟨(World.cell?_of_block (a := ⟨w.heap.size, 1, none⟩) (hg2.block w.heap.size (by omega) (fun hh => by have := (hown1.lt _ hh.symm).1; omega))).trans (by simp [*]), (World.cell?_of_block (a := ⟨w.heap.size, 3, none⟩) (hg2.block w.heap.size (by omega) (fun hh => by have := (hown1.lt _ hh.symm).1; omega))).trans (by simp [*])⟩)
      | (exact ⟨(World.cell?_of_block (a := ⟨w.heap.size, 1, none⟩) (hg1.block w.heap.size (by simp; omega) (fun hh => by simp [Value.ownBlock] at hh; omega))).trans (by simp [*]), (World.cell?_of_block (a := ⟨w.heap.size, 3, none⟩) (hg1.block w.heap.size (by simp; omega) (fun hh => by simp [Value.ownBlock] at hh; omega))).trans (by simp [*])⟩))
    (first
      | (refine step_append_any _ (by rfl) (.tmp 29) (.tmp 30) _ (by rfl) w1.heap.size 5 i0 _ 1 1 Try.underlying22 hi hz0 hz1 hz2 rfl (by omega) (.slice (some ⟨w1.heap.size, 0, none⟩) 0 0) 0 [] (by rfl) (built_none w1) w1.heap.size e0.d.A e0.d.n e0.d.c (vb e0.d.xs) (by rfl) ((HEO.out.rd.below HB1.out).reads.alloc (Nat.le_refl _) _) (vb_oneCell _) (by simp only [maxLen]; omega) (by omega) (by simp) ?_; intro v1 w2 hown1 hg1 hat1; have HB2 : Hid (Below w.heap.size w w2) := Lib.hid ((HB1.out.alloc HB1.out.size _).drew.grown hg1 (by simp; omega) (fun k hk => by simp [Value.ownBlock] at hk; omega)); have hw2 : w.heap.size < w2.heap.size := (by have := hg1.size; simp at this; omega); have hw12 : w1.heap.size ≤ w2.heap.size := (by have := hg1.size; simp at this; omega))
      | (refine step_append_any _ (by rfl) (.tmp 31) (.tmp 33) _ (by rfl) w1.heap.size 5 i0 _ 1 1 Try.underlying22 hi hz0 hz1 hz2 rfl (by omega) v1 (0 + e0.d.n) ([] ++ vb e0.d.xs) (by rfl) hown1 w2.heap.size d.A d.n d.c (vb d.xs) (by rfl) (HD.out.rd.below HB2.out).reads (vb_oneCell _) (by simp only [maxLen]; omega) (by omega) hw12 ?_; intro v2 w3 hown2 hg2 hat2; simp only [Nat.zero_add, List.nil_append] at hown2; have HB3 : Hid (Below w.heap.size w w3) := Lib.hid (HB2.out.grown hg2 (by omega) (fun k hk => by have := (hown1.lt k hk).1; omega)); obtain ⟨A2, c2, hv2⟩ := own_form hown2; subst hv2; have hw3 : w.heap.size < w3.heap.size := (by have := hg2.size; omega))
      | (go_at_call 99; ((with_reducible refine (D.out _ HB3.out _ _ _ (e0.d.xs ++ d.xs)).mono ?_)); rintro e1 w4 ⟨A4, c4, rfl, ho4, hb9⟩))
  all_goals
    go_wp2
    go_ret
    have hsm : ∀ x ∈ e0.d.xs ++ d.xs, x < 256 := fun x hx => by
      rcases List.mem_append.1 hx with hx | hx
      · exact HEO.out.rd.small x hx
      · exact HD.out.rd.small x hx
    have ho5 : w3.ownsRow w1.heap.size 5 1 (.slice A2 (e0.d.n + d.n) c2) (e0.d.n + d.n) (vb (e0.d.xs ++ d.xs)) := by rw [vb_append]; exact hown2
    have hok5 : (⟨A2, e0.d.n + d.n, c2, e0.d.xs ++ d.xs⟩ : Dat).Ok w3 := ⟨Rd.of_own ho5 hsm, own_cap ho5⟩
    exact ⟨A4, c4, _, rfl, (HV.out ⟨nm, ⟨A2, e0.d.n + d.n, c2, e0.d.xs ++ d.xs⟩⟩ rfl rfl).symm, sl_of_own ho4 (fun x hx => (withK_ok hok5 (fun e he => (HE.out e he).below HB3.out) x hx).keep hb9.size hb9.block), HB3.out.trans (hb9.mono HB3.out.size)⟩

theorem below_chain {w W W' : World} (h : Below w.heap.size w W) (k : Below W.heap.size W W') : Below w.heap.size w W' := h.trans (k.mono h.size)

set_option maxRecDepth 10000 in
set_option maxHeartbeats 2000000 in
theorem specMake_3 (A : Option Addr) (n c : Nat) (es : List Ent) (nm to : ByteArray) (d : Dat) (w : World) (hr : SlF w A n es) (hn : n ≤ 524288) (hh : hasK Ent.nm nm es = true) (hs : ∀ e ∈ es, e.d.n ≤ 1048576) :
    Calls Try.prog 77 #[.slice A n c, .agg #[.int .i64 3, .string nm, .string to, .slice d.A d.n d.c]] w (SeesF w (makeF (es.map Ent.file) (3, nm, to, d.xs))) := by
  obtain ⟨i0, hi, hz0, hz1, hz2⟩ := info_parts Try.infoByte
  obtain ⟨k, e, hk, he, hall, hfind⟩ := has_at nm es hh
  have hat := ixE_at hk he hall
  have C := Lib.hid (fun W (h : Below w.heap.size w W) => specAt A n c es nm W (hr.below h) (by omega))
  rw [hat] at C
  have hkn : k < n := by have := (List.getElem?_eq_some_iff.1 hk).1; have := hr.len; omega
  have C2 := Lib.hid (fun W (h : Below w.heap.size w W) => specLess A n c es nm W (hr.below h) (by omega))
  have HE := Lib.hid (fun e (he : e ∈ lessK Ent.nm nm es) => hr.each e (lessK_mem he).1)
  have hlen : (lessK Ent.nm nm es).length ≤ n := by rw [← hr.len]; exact lessK_len _ _
  have HEO := Lib.hid (hr.each e (List.mem_of_getElem? hk))
  have hen := hs e (List.mem_of_getElem? hk)
  have HV : Hid (∀ y : Ent, y.nm = to → y.d.xs = e.d.xs → makeF (es.map Ent.file) (3, nm, to, d.xs) = (withK Ent.nm y (lessK Ent.nm nm es)).map Ent.file) := Lib.hid (fun y h1 h2 => by
    rw [withK_map (f := Ent.file) (key := Ent.nm) (key' := Prod.fst) (fun _ => rfl), lessK_map (f := Ent.file) (key := Ent.nm) (key' := Prod.fst) (fun _ => rfl)]
    simp only [makeF, withF, lessF, dataF_at hfind, Ent.file, h1, h2]
    rfl)
  generalize lessK Ent.nm nm es = ls at C2 HE hlen HV
  have D0 : ∀ W (A5 : Option Addr) (c5 : Nat) (_ : SlF W A5 ls.length ls) (A2 : Option Addr) (n2 c2 : Nat) (xs2 : List Nat), Calls Try.prog 99 #[.slice A5 ls.length c5, .agg #[.string to, .slice A2 n2 c2]] W (GivesF W (withK Ent.nm ⟨to, ⟨A2, n2, c2, xs2⟩⟩ ls)) := fun W A5 c5 h A2 n2 c2 xs2 => specWith A5 ls.length c5 ls ⟨to, ⟨A2, n2, c2, xs2⟩⟩ W h (by omega)
  have D := Lib.hid D0
  obtain ⟨b, off, e0, rfl, hbw, he0, hok0, c0, c1⟩ := hr.at_ hkn
  have hee : e0 = e := by have := he0.out; rw [hk] at this; injection this with this; exact this.symm
  subst hee
  clear hr hs hh hat hall hk he hfind he0 hok0 c0 D0
  go_enter Try.func77, Try.ntmps77
  go_wp2_with fail
  refine (C.out _ (below_a1 _ _)).mono ?_
  rintro e1 w1 ⟨rfl, hb1⟩
  have HB1 := Lib.hid ((below_a1 w _).trans (hb1.mono (by simp)))
  have c1 := (HB1.out.cell (p := ⟨b, off + k * 2 + 1, none⟩) hbw).trans c1
  obtain ⟨l4, b0, b1, b2, b3⟩ := (Box4.new w (.int .i64 3) (.string nm) (.string to) (.slice d.A d.n d.c) 30).below hb1
  have hw1 : w.heap.size < w1.heap.size := l4
  have hbw1 : b < w1.heap.size := by have := HB1.out.size; omega
  clear hb1
  go_wp2
  go_region_held3 (fun W => W.cell? ⟨w.heap.size, 1, none⟩ = some (.string nm) ∧ W.cell? ⟨w.heap.size, 2, none⟩ = some (.string to))
    (first
      | go_keep
      | (exact ⟨(hb9.cell (p := ⟨w.heap.size, 1, none⟩) (by first | omega | (simp; omega))).trans (by simp [*]), (hb9.cell (p := ⟨w.heap.size, 2, none⟩) (by first | omega | (simp; omega))).trans (by simp [*])⟩)
      | (exact ⟨(hbA.cell (p := ⟨w.heap.size, 1, none⟩) (by first | omega | (simp; omega))).trans (by simp [*]), (hbA.cell (p := ⟨w.heap.size, 2, none⟩) (by first | omega | (simp; omega))).trans (by simp [*])⟩)
      | (exact ⟨(hb5.cell (p := ⟨w.heap.size, 1, none⟩) (by first | omega | (simp; omega))).trans (by simp [*]), (hb5.cell (p := ⟨w.heap.size, 2, none⟩) (by first | omega | (simp; omega))).trans (by simp [*])⟩))
    (first
      | (go_at_call 100; ((with_reducible refine (C2.out _ (by first | exact HB1.out.drew | exact (HB1.out.alloc HB1.out.size _).drew | exact HBA.out | exact HB5.out | exact HB5.out.alloc HB5.out.size _ | exact HBA.out.alloc HBA.out.size _)).mono ?_)); rintro e1 w5 ⟨A5, c5, rfl, ho5, hb5⟩; have HB5 : Hid (Below w.heap.size w w5) := Lib.hid (below_chain (by first | exact HB1.out.drew | exact (HB1.out.alloc HB1.out.size _).drew | exact HBA.out | exact HBA.out.alloc HBA.out.size _) hb5); have HL := Lib.hid (sl_of_own ho5 (fun x hx => (HE.out x hx).below HB5.out)); have hw5 : w.heap.size < w5.heap.size := (by have := hb5.size; first | omega | (simp at this; omega)))
      | (refine step_append_full _ rfl (.tmp 53) (.tmp 54) _ rfl 5 i0 _ 1 1 Try.underlying22 hi hz0 hz1 hz2 rfl 0 _ 0 [] rfl Reads.none_ _ e0.d.A e0.d.n e0.d.c (vb e0.d.xs) rfl ((HEO.out.rd.below (by first | exact HB1.out.drew | exact (HB1.out.alloc HB1.out.size _).drew | exact HBA.out | exact HB5.out | exact HB5.out.alloc HB5.out.size _ | exact HBA.out.alloc HBA.out.size _)).reads) (by simp only [maxLen]; omega) (by omega) ?_; intro vA wA hfa; obtain ⟨AA, cA, hvA, hokA, hbA⟩ := FullApp.copy hfa HEO.out.rd.len HEO.out.rd.small; subst hvA; have HKA := Lib.hid hokA; have HBA : Hid (Below w.heap.size w wA) := Lib.hid (below_chain (by first | exact HB1.out.drew | exact (HB1.out.alloc HB1.out.size _).drew | exact HB5.out | exact HB5.out.alloc HB5.out.size _) hbA); have hwA : w.heap.size < wA.heap.size := (by have := hbA.size; first | omega | (simp at this; omega)); (first | (have HLA := Lib.hid (HL.out.below (w' := wA) (by first | exact hbA | exact below_chain (below_a1 _ _) hbA))) | skip))
      | (go_at_call 99; ((with_reducible refine (D.out _ _ _ (by first | exact HLA.out | exact HL.out) _ _ _ e0.d.xs).mono ?_)); rintro e1 w4 ⟨A4, c4, rfl, ho4, hb9⟩))
  all_goals
    go_wp2
    go_ret
    have hb4 : Below w.heap.size w w4 := by first | exact below_chain HBA.out hb9 | exact below_chain HB5.out hb9
    have hok4 : (⟨AA, e0.d.n, cA, e0.d.xs⟩ : Dat).Ok w4 := by first | exact HKA.out.keep hb9.size hb9.block | exact (HKA.out.keep hb5.size hb5.block).keep hb9.size hb9.block
    exact ⟨A4, c4, _, rfl, (HV.out ⟨to, ⟨AA, e0.d.n, cA, e0.d.xs⟩⟩ rfl rfl).symm, sl_of_own ho4 (fun x hx => withK_ok hok4 (fun e he => (HE.out e he).below hb4) x hx), hb4⟩

theorem specMake (A : Option Addr) (n c : Nat) (es : List Ent) (o : OpE) (w : World) (hr : SlF w A n es) (hn : n ≤ 524288) (hd : o.d.Ok w) (hh : o.kind = 2 ∨ o.kind = 3 → hasF o.nm (es.map Ent.file) = true) (hs : ∀ e ∈ es, e.d.n ≤ 1048576) (hs2 : o.d.n ≤ 1048576) :
    Calls Try.prog 77 #[.slice A n c, .agg #[.int .i64 o.kind, .string o.nm, .string o.to, .slice o.d.A o.d.n o.d.c]] w (SeesF w (makeF (es.map Ent.file) o.op)) := by
  obtain ⟨kind, nm, to, d⟩ := o
  by_cases h1 : kind = 1
  · subst h1; exact specMake_1 A n c es nm to d w hr hn
  · by_cases h2 : kind = 2
    · subst h2
      have := hh (.inl rfl)
      rw [hasF_ents] at this
      exact specMake_2 A n c es nm to d w hr hn hd this hs hs2
    · by_cases h3 : kind = 3
      · subst h3
        have := hh (.inr rfl)
        rw [hasF_ents] at this
        exact specMake_3 A n c es nm to d w hr hn this hs
      · exact specMake_4 A n c es kind nm to d w hr hn h1 h2 h3
end Go.Proofs.Ytfcomnpoehpgiaa
