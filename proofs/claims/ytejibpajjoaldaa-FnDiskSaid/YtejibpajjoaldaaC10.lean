/- The contracts of the library's functions that give a map's keys in order, at a map of files (from the library's own contracts, laid here); of the program's function that lists files in order: new memory. // The contracts of the functions that give the visible files and that read one of them: the model's and the program's. -/
import Derived.Test.YtejibpajjoaldaaC7
import Derived.Test.YtejibpajjoaldaaC9
import Derived.Test.YtejibpajjoaldaaShelfSort
namespace Go.Proofs.Ytejibpajjoaldaa
open Go.RowKit Go.Maps Go.Shelf

theorem Try.sortsS (m : Nat) : AnyZ.SortsIn Try.prog Try.sortedS_ren Fence.wide m :=
  ⟨fun blk off cap ss W hH hblk hsz => callsIn_wide.2 (AnyM.slices_Sort_string Try.sortS blk off cap ss W hH hblk hsz),
   fun p cap W => callsIn_wide.2 (AnyM.slices_Sort_string_none Try.sortS p cap W)⟩
theorem keysIn (mb : Option Nat) (W : World) : CallsIn Fence.wide 5 Try.prog 85 #[.map mb] W fun e w' => e = .returned (.func (.func 93) #[] #[.pointer (some ⟨W.heap.size, 0, none⟩)]) ∧ w' = W.alloc (.cells #[.map mb] 71) :=
  AnyZ.keys_in Try.keysS Fence.wide 5 trivial rfl mb W
theorem keysCall (mb : Option Nat) (W : World) : Calls Try.prog 85 #[.map mb] W fun e w' => e = .returned (.func (.func 93) #[] #[.pointer (some ⟨W.heap.size, 0, none⟩)]) ∧ w' = W.alloc (.cells #[.map mb] 71) :=
  (callsIn_wide (n := 5)).1 (keysIn mb W)

set_option maxHeartbeats 1000000 in
theorem sortedIn {H : Type} (b nn : Nat) (D0 : DataW H) (R : Value → Option (DataW H × List MemPlace)) (w : World) (hown : w.ownsMap Try.prog 9 R b nn D0) (hmax : Maps.size D0 ≤ maxLen) (hbytes : Maps.size D0 * 16 ≤ 140737488355328) :
    CallsIn Fence.wide 5 Try.prog 84 #[.func (.func 93) #[] #[.pointer (some ⟨w.heap.size, 0, none⟩)]] (w.alloc (.cells #[.map (some b)] 71)) fun e w' => ∃ (v : Value) (ss : List (List UInt8)), e = .returned v ∧ ss.Perm (strKeys D0) ∧
      w'.ownsRow (w.alloc (.cells #[.map (some b)] 71)).heap.size 9 1 v ss.length ((ss.mergeSort (fun x y => decide (x ≤ y))).map encStr) ∧ (v = .slice none 0 0 ↔ ss = []) ∧ Below (w.alloc (.cells #[.map (some b)] 71)).heap.size (w.alloc (.cells #[.map (some b)] 71)) w' := by
  have hbl := hown.lt
  have hseq : SeqGives Fence.wide 2 Try.prog 93 #[.pointer (some ⟨w.heap.size, 0, none⟩)] encStr (fun ss => ss.Perm (strKeys D0)) (Maps.size D0) (w.alloc (.cells #[.map (some b)] 71)) :=
    AnyZ.keys_gives (ρ := Try.keysS_ren) { Try.keysS with } Fence.wide _ trivial rfl (by omega) w.heap.size b nn D0 _ (by simp) (by simp) (by
      obtain ⟨es, clock, hb, Ft, hs, hD⟩ := hown
      exact ⟨es, clock, (Below.heap_alloc _ _ b hbl).trans hb, Ft, hs, hD⟩)
  exact AnyZ.sorted_in Try.sortedS Fence.wide 5 trivial trivial trivial trivial rfl (by omega) (Try.sortsS _) (enters_of Try.func92 (by kernel_rfl) rfl) 93 #[.pointer (some ⟨w.heap.size, 0, none⟩)] trivial (enters_of Try.func93 (by kernel_rfl) rfl) _ _ hmax hbytes _ hseq

/-! ### the order of the names -/
theorem less_of_before : ∀ (a b : List UInt8), bytesBefore a b = true → a < b
  | [], [], h => by simp [bytesBefore] at h
  | [], x :: r, _ => List.nil_lt_cons x r
  | x :: r, [], h => by simp [bytesBefore] at h
  | x :: r, y :: s, h => by
    unfold bytesBefore at h
    simp only [Bool.or_eq_true, decide_eq_true_eq, Bool.and_eq_true, beq_iff_eq] at h
    rw [List.cons_lt_cons_iff]
    rcases h with h | ⟨h, k⟩
    · exact .inl h
    · exact .inr ⟨h, less_of_before r s k⟩
theorem strKeys_map (es : List Ent) : strKeys (mapD es) = es.map fun e => e.nm.data.toList := by
  show (es.map entD).map (fun p => strOf p.1) = _
  rw [List.map_map]
  rfl
theorem sorted_names {es : List Ent} (hu : upE es) {ss : List (List UInt8)} (hp : ss.Perm (strKeys (mapD es))) : (ss.mergeSort (fun x y => decide (x ≤ y))).map encStr = es.map fun e => Value.string e.nm := by
  rw [strKeys_map] at hp
  have h1 := mergeSort_of_perm hp
  have h2 : (es.map fun e => e.nm.data.toList).mergeSort leB = es.map fun e => e.nm.data.toList := by
    refine List.mergeSort_of_pairwise (List.pairwise_map.2 (hu.imp fun {a b} h => ?_))
    simp only [leB, decide_eq_true_eq]
    exact List.le_of_lt (less_of_before _ _ h)
  have h3 : ss.mergeSort (fun x y => decide (x ≤ y)) = es.map fun e => e.nm.data.toList := h1.trans h2
  rw [h3, List.map_map]
  rfl
/-- The names of the files in a map, in order. -/
theorem sortedCall (lo b : Nat) (es : List Ent) (w : World) (hm : MapIs w lo b es) (hl : es.length ≤ 1048576) :
    Calls Try.prog 84 #[.func (.func 93) #[] #[.pointer (some ⟨w.heap.size, 0, none⟩)]] (w.alloc (.cells #[.map (some b)] 71)) fun e w' => ∃ A c, e = .returned (.slice A es.length c) ∧
      w'.ownsRow w.heap.size 9 1 (.slice A es.length c) es.length (es.map fun e => Value.string e.nm) ∧ Below w.heap.size w w' := by
  have hs := mapD_size es
  refine ((callsIn_wide (n := 5)).1 (sortedIn b es.length (mapD es) rawR w hm.own (by rw [hs]; unfold maxLen; omega) (by rw [hs]; omega))).mono ?_
  rintro e w' ⟨v, ss, rfl, hp, hrow, _, hb⟩
  have hlen : ss.length = es.length := by rw [hp.length_eq, strKeys_map, List.length_map]
  rw [sorted_names hm.up hp, hlen] at hrow
  obtain ⟨A, c, rfl⟩ := own_formK hrow
  exact ⟨A, c, rfl, own_mono hrow (by simp), (below_a1 w _).trans (hb.mono (by simp))⟩

set_option maxRecDepth 10000 in
set_option maxHeartbeats 4000000 in
theorem implSorted (lo mb : Nat) (es : List Ent) (w : World) (hm : MapIs w lo mb es) (hl : es.length ≤ 1048576) (hn : ∀ e ∈ es, e.nm.size ≤ 1048576 ∧ e.d.n ≤ 1048576) :
    Calls Try.prog 56 #[.map (some mb)] w (MadeFs w (es.map Ent.file)) := by
  obtain ⟨i0, hi, hz0, hz1, hz2⟩ := info_parts Try.infoFile
  have CK := Lib.hid (fun W => keysCall (some mb) W)
  have CS := Lib.hid (sortedCall lo mb es w hm hl)
  have HM := Lib.hid hm
  have HN := Lib.hid hn
  clear hm hn
  go_enter Try.func56, Try.ntmps56
  go_wp2_with fail
  refine (CK.out _).mono ?_
  rintro e w0 ⟨rfl, rfl⟩
  go_wp2_with fail
  refine CS.out.mono ?_
  rintro e w1 ⟨A1, c1, rfl, hrow, hb1⟩
  have HR := Lib.hid hrow
  have HB1 := Lib.hid hb1
  clear hrow hb1
  go_wp2
  go_loopw [3, 10] (fun v i wr => ∃ (k : Nat) (out : List Ent), k ≤ es.length ∧ i = .int .i64 k ∧ Hid (out.length = k) ∧ Hid (out.map Ent.file = (es.take k).map Ent.file) ∧ Hid (wr.ownsRow w.heap.size 87 2 v out.length (out.flatMap Ent.cells)) ∧ Hid (OwnB wr w.heap.size (out.map Ent.d)) ∧ Hid (wr.ownsRow w.heap.size 9 1 (.slice A1 es.length c1) es.length (es.map fun e => Value.string e.nm)) ∧ Hid (Below w.heap.size w wr)) (fun _ i _ => es.length - (intOf i).toNat)
  case atStart => exact ⟨0, [], Nat.zero_le _, rfl, Lib.hid rfl, Lib.hid (by simp), Lib.hid (World.ownsRow_nil _ _ _ _), Lib.hid OwnB.nil, HR, HB1⟩
  case round =>
    obtain ⟨k, out, hk, rfl, hlen, hfs, hown, hdat, hkeys, hbel⟩ := hrel
    by_cases hlt : k < es.length
    · obtain ⟨e, he⟩ : ∃ e, es[k]? = some e := ⟨es[k], List.getElem?_eq_getElem hlt⟩
      have hmem := List.mem_of_getElem? he
      obtain ⟨g, hg⟩ := own_at hkeys.out (by omega)
      subst hg
      have c0 : wr.cell? ⟨g, k, none⟩ = some (.string e.nm) := by
        rw [hkeys.out.cellAt k (by omega), List.getElem?_map, he]
        rfl
      have hsz := HN.out e hmem
      have hkey := Lib.hid (keyNm (s := e.nm) (by unfold maxLen; omega))
      have MK := Lib.hid (HM.out.below hbel.out)
      have hfind : findK Ent.nm e.nm es = some e := by
        have hh : hasK Ent.nm e.nm es = true := by
          unfold hasK
          rw [List.any_eq_true]
          exact ⟨e, hmem, by simp⟩
        rw [hasK_find, Option.isSome_iff_exists] at hh
        obtain ⟨e', he'⟩ := hh
        obtain ⟨h1, h2⟩ := findK_mem he'
        rw [he']
        congr 1
        by_cases hee : e'.nm = e.nm ∧ e' ≠ e
        · exact absurd hee.1 (pair_of (R := fun a b : Ent => a.nm ≠ b.nm) (fun h => h.symm) MK.out.nodup h1 hmem hee.2)
        · by_cases h3 : e' = e
          · exact h3
          · exact absurd ⟨h2, h3⟩ hee
      have HAT := Lib.hid (fun z => mapD_find hfind z)
      have HOK := Lib.hid (MK.out.ok e hmem)
      have HRS := Lib.hid (HOK.out.rd.small)
      have HSTEP := Lib.hid (take_step es k e he)
      have CC := Lib.hid (fun W (h : Below wr.heap.size wr W) => clone_any e.d.A e.d.n e.d.c e.d.xs W (HOK.out.below h).rd (by omega))
      have hol : out.length ≤ k := by rw [hlen.out]; exact Nat.le_refl _
      clear he hmem hfind
      go_wp2_with (first
        | (at_lookup; refine wpList_lookup_raw _ rfl _ _ 71 rfl 9 22 Try.keyed Try.underlying71 (Try.zeroS _) mb es.length (mapD es) rfl MK.out.own _ _ rfl hkey.out _ _ _ HAT.out ?_)
        | (go_at_call 48; ((with_reducible refine (CC.out _ (Below.refl _ _)).mono ?_)); rintro e1 w5 ⟨A5, c5, rfl, ho5, hb5⟩)
        | (at_builtin; refine wpList_append_any _ rfl (.tmp 14) (.tmp 21) _ rfl w.heap.size 87 i0 _ 2 40 Try.underlying23 hi hz0 hz1 hz2 rfl (by omega) u3 out.length (out.flatMap Ent.cells) rfl ((own_below hown.out hb5).alloc _) (w5.heap.size + 1) (some ⟨w5.heap.size, 0, none⟩) 1 1 (Ent.cells ⟨e.nm, ⟨A5, e.d.n, c5, e.d.xs⟩⟩) rfl (two_reads _ _ _ _ _ rfl) (Ent.cells_one _) (by simp only [maxLen]; omega) (by omega) (by have := hbel.out.size; have := hb5.size; simp; omega) ?_; intro v2 w3 hown2 hg2 hat2))
      have hd2 : OwnB w5 w.heap.size (out.map Ent.d) := hdat.out.below hb5
      have hone : OwnB w5 wr.heap.size [⟨A5, e.d.n, c5, e.d.xs⟩] := OwnB.one (d := ⟨A5, e.d.n, c5, e.d.xs⟩) ho5 HRS.out
      have hall := hd2.append (hone.mono hbel.out.size) (apart_of_time hdat.out (Nat.le_refl _) hone (Nat.le_refl _))
      have hrow : (w5.alloc (.cells #[.string e.nm, .slice A5 e.d.n c5] 87)).ownsRow w.heap.size 87 2 u3 out.length (out.flatMap Ent.cells) := (own_below hown.out hb5).alloc _
      have hall2 := (hall.below (below_a1 w5 (.cells #[.string e.nm, .slice A5 e.d.n c5] 87))).grow hrow (by decide) hg2
      have HALL := Lib.hid hall2
      have HKEYS := Lib.hid (own_grow (own_below (own_below hkeys.out hb5) (below_a1 w5 _)) hrow (by decide) hg2)
      have hb3 : RowKit.Below w.heap.size w w3 := (below_chain (below_chain hbel.out hb5) (below_a1 w5 _)).grown hg2 (by have := hbel.out.size; have := hb5.size; simp; omega) (fun j hj => (hown.out.lt j hj).1)
      have HB3 := Lib.hid hb3
      have ho3 : w3.ownsRow w.heap.size 87 2 v2 (out ++ [(⟨e.nm, ⟨A5, e.d.n, c5, e.d.xs⟩⟩ : Ent)]).length ((out ++ [(⟨e.nm, ⟨A5, e.d.n, c5, e.d.xs⟩⟩ : Ent)]).flatMap Ent.cells) := by
        rw [flat_snoc, List.length_append]
        exact hown2
      have HO3 := Lib.hid ho3
      clear hd2 hone hall hrow hall2 hb3 ho3 hown2 hg2 hat2 ho5 hb5
      go_wp2
      go_roundw
      case rel => exact ⟨k + 1, out ++ [⟨e.nm, ⟨A5, e.d.n, c5, e.d.xs⟩⟩], by omega, by go_num, Lib.hid (by simp [hlen.out]), Lib.hid (by rw [HSTEP.out, List.map_append, List.map_append, hfs.out]; rfl), HO3, Lib.hid (by rw [List.map_append]; exact HALL.out), HKEYS, HB3⟩
      case measure => simp [intOf]; omega
    · have hkn : k = es.length := by omega
      subst hkn
      obtain ⟨A2, c2, rfl⟩ := own_formK hown.out
      go_wp2
      go_ret
      exact ⟨A2, c2, out, rfl, by rw [hfs.out, List.take_length], ⟨hown.out, hdat.out⟩, hbel.out⟩
end Go.Proofs.Ytejibpajjoaldaa
namespace Go.Proofs.Ytejibpajjoaldaa
open Go.RowKit Go.Maps

/-! ### what is visible is small -/
theorem makeF_names {l : List FileD} {o : OpD} {f : FileD} (h : f ∈ makeF l o) : f ∈ l ∨ f.1 = o.2.1 ∨ f.1 = o.2.2.1 := by
  have hw : ∀ {x : FileD} {l : List FileD}, f ∈ withF x l → f = x ∨ f ∈ l := fun {x l} h => by
    rcases insK_mem.1 h with h | h
    · exact .inl h
    · exact .inr (lessK_mem h).1
  unfold makeF at h
  split at h
  · rcases hw h with rfl | h
    · exact .inr (.inl rfl)
    · exact .inl h
  · split at h
    · rcases hw h with rfl | h
      · exact .inr (.inl rfl)
      · exact .inl h
    · split at h
      · rcases hw h with rfl | h
        · exact .inr (.inr rfl)
        · exact .inl (lessK_mem h).1
      · exact .inl (lessK_mem h).1
theorem DD.after_names {r : DD} (hw : r.weight ≤ 1048576) : ∀ (k : Nat), ∀ f ∈ r.after k, f.1.size ≤ 1048576
  | 0, f, hf => by
    have := wtF_each (l := r.fs) (f := f) hf
    unfold DD.weight at hw
    omega
  | k + 1, f, hf => by
    by_cases hk : k < r.ops.length
    · have e := take_step r.ops k r.ops[k] (List.getElem?_eq_getElem hk)
      unfold DD.after at hf
      rw [e, List.foldl_append] at hf
      have h2 := wtO_each (l := r.ops) (f := r.ops[k]) (List.getElem_mem hk)
      unfold DD.weight at hw
      rcases makeF_names hf with h | h | h
      · exact DD.after_names (by unfold DD.weight; exact hw) k f h
      · rw [h]; omega
      · rw [h]; omega
    · refine DD.after_names hw k f ?_
      unfold DD.after at hf ⊢
      rw [List.take_of_length_le (by omega)] at hf
      rw [List.take_of_length_le (by omega)]
      exact hf
theorem DD.seen_names {r : DD} (hw : r.weight ≤ 1048576) : ∀ f ∈ r.seen, f.1.size ≤ 1048576 := by
  cases h : r.ok with
  | false => rw [(DD.no_seen h).2]; simp
  | true => rw [DD.seen_after h]; exact DD.after_names hw _
theorem bulkF_tot : ∀ (l : List FileD), bulkF l = l.length + totF l
  | [] => rfl
  | x :: r => by
    have := bulkF_tot r
    simp only [bulkF, totF, List.map_cons, List.sum_cons, List.length_cons] at *
    omega
theorem DD.seen_tot {r : DD} : r.seen.length ≤ 12 ∧ totF r.seen ≤ 200000 := by
  cases h : r.ok with
  | false => rw [(DD.no_seen h).2]; simp [totF]
  | true =>
    have h1 := DD.seen_good h
    have h2 := DD.ok_lim h
    exact ⟨h1.1, by omega⟩
theorem DD.seen_bulk {r : DD} : bulkF r.seen ≤ 2097152 := by
  have := DD.seen_tot (r := r)
  rw [bulkF_tot]
  omega
/-- What a map of the visible files bears is small. -/
theorem MapIs.fine {w : World} {lo mb : Nat} {es : List Ent} {r : DD} (h : MapIs w lo mb es) (hs : es.map Ent.file = r.seen) (hw : r.weight ≤ 1048576) : es.length ≤ 1048576 ∧ ∀ e ∈ es, e.nm.size ≤ 1048576 ∧ e.d.n ≤ 1048576 := by
  have ht := DD.seen_tot (r := r)
  refine ⟨by have := congrArg List.length hs; rw [List.length_map] at this; omega, fun e he => ⟨?_, ?_⟩⟩
  · exact DD.seen_names hw e.file (by rw [← hs]; exact List.mem_map.2 ⟨e, he, rfl⟩)
  · have := h.bound (k := 200000) (by rw [hs]; exact ht.2) e he
    omega

/-- The program's replay, at a disk that the law has measured. -/
def VisD (w : World) (r : DD) (e : Ending) (w' : World) : Prop :=
  (r.ok = false ∧ e = .returned (.tuple #[.map none, .bool false]) ∧ Below w.heap.size w w') ∨
  (r.ok = true ∧ ∃ mb es, e = .returned (.tuple #[.map (some mb), .bool true]) ∧ es.map Ent.file = r.seen ∧ MapIs w' w.heap.size mb es ∧ Below w.heap.size w w')
theorem Meant.vis {w : World} {r : DD} {A : Option Addr} {n : Nat} {B : Option Addr} {m : Nat} {es : List Ent} {os : List OpE} (h : Meant w r A n B m es os) (c d : Nat) :
    Calls Try.prog 42 #[.agg #[.int .i64 r.room, .int .i64 r.fuse, .slice A n c, .slice B m d]] w (VisD w r) := by
  have hv := implVis r.room r.fuse A n c B m d es os w h.f h.o h.modest
  rw [ddOf_eq (r := r) h.hf h.ho rfl rfl] at hv
  cases hr : r.ok with
  | false =>
    rw [(DD.no_seen hr).1] at hv
    exact hv.mono fun _ _ hh => .inl ⟨hr, hh⟩
  | true =>
    rw [DD.ok_seen hr] at hv
    exact hv.mono fun _ _ hh => .inr ⟨hr, hh⟩

/-! ### the visible files -/
def SeeF (w : World) (fs : List FileD) (e : Ending) (w' : World) : Prop := ∃ A n c, e = .returned (.slice A n c) ∧ RdF w' A n fs ∧ Below w.heap.size w w'
def ResF (w : World) (fs : List FileD) (e : Ending) (w' : World) : Prop := ∃ A n c, e = .returned (.slice A n c) ∧ OwF w' w.heap.size A n c fs ∧ Below w.heap.size w w'
theorem specSeenF (r : DD) (A : Option Addr) (n c : Nat) (B : Option Addr) (m d : Nat) (es : List Ent) (os : List OpE) (w : World) (h : Meant w r A n B m es os) (hc : m ≤ d) :
    Calls Try.prog 16 #[.agg #[.int .i64 r.room, .int .i64 r.fuse, .slice A n c, .slice B m d]] w (SeeF w r.seen) :=
  (specSeen r A n c B m d es os w h hc).mono fun _ _ ⟨A2, c2, es2, he, hf, hs, hb⟩ => ⟨A2, es2.length, c2, he, ⟨es2, hf, hs⟩, hb⟩

set_option maxRecDepth 10000 in
set_option maxHeartbeats 4000000 in
theorem implSeenF (r : DD) (A : Option Addr) (n c : Nat) (B : Option Addr) (m d : Nat) (es : List Ent) (os : List OpE) (w : World) (h : Meant w r A n B m es os) :
    Calls Try.prog 18 #[.agg #[.int .i64 r.room, .int .i64 r.fuse, .slice A n c, .slice B m d]] w (ResF w r.seen) := by
  have CV := Lib.hid ((h.below (below_a1 w (.cells #[.int .i64 r.room, .int .i64 r.fuse, .slice A n c, .slice B m d] 26))).vis c d)
  have HW := Lib.hid h.wt
  clear h
  go_enter Try.func18, Try.ntmps18
  go_wp2_with fail
  refine CV.out.mono ?_
  rintro e w1 (⟨hok, rfl, hb1⟩ | ⟨hok, mb, es1, rfl, hf1, hm1, hb1⟩)
  · have HS := Lib.hid (DD.no_seen hok).2
    clear hok
    go_wp2
    go_ret
    rw [HS.out]
    exact ⟨none, 0, 0, rfl, ⟨[], rfl, rfl, OwnF.nil⟩, below_chain (below_a1 w _) hb1⟩
  · have hfine := hm1.fine hf1 HW.out
    have CS := Lib.hid (implSorted _ mb es1 w1 hm1 hfine.1 hfine.2)
    have HF := Lib.hid hf1
    have HB := Lib.hid (below_chain (below_a1 w _) hb1)
    clear hok hfine hf1 hm1 hb1
    go_wp2_with fail
    refine CS.out.mono ?_
    rintro e w2 ⟨A2, c2, es2, rfl, hf2, ho2, hb2⟩
    go_wp2
    go_ret
    exact ⟨A2, es2.length, c2, rfl, ⟨es2, hf2.trans HF.out, rfl, ho2.mono HB.out.size⟩, below_chain HB.out hb2⟩

/-! ### one file -/
def DD.read (r : DD) (s : ByteArray) : List Nat := dataF s r.seen
def DD.has (r : DD) (s : ByteArray) : Bool := hasF s r.seen
theorem DD.read_small {r : DD} (s : ByteArray) : (r.read s).length ≤ 200000 := Nat.le_trans (dataF_len s r.seen) DD.seen_tot.2
theorem dataF_no {s : ByteArray} {l : List FileD} (h : hasF s l = false) : dataF s l = [] := by
  unfold hasF at h
  rw [hasK_find] at h
  unfold dataF
  cases hf : findK Prod.fst s l with
  | none => rfl
  | some e => rw [hf] at h; cases h

end Go.Proofs.Ytejibpajjoaldaa
