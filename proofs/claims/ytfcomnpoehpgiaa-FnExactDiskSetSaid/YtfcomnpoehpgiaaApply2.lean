/- Doing an append: the contract of the program's function at kind 2. -/
import Derived.Test.YtfcomnpoehpgiaaGrow
import Derived.Test.YtfcomnpoehpgiaaSpecMake
namespace Go.Proofs.Ytfcomnpoehpgiaa
open Go.RowKit Go.Maps

set_option maxRecDepth 10000 in
set_option maxHeartbeats 2000000 in
theorem implApply_2a (lo mb : Nat) (es : List Ent) (e : Ent) (to : ByteArray) (d : Dat) (w : World) (hm : MapIs w lo mb es) (hl : es.length ≤ 1048576) (hs : e.nm.size ≤ 1048576) (hd : d.Ok w) (hdn : d.n ≤ 16777216) (hen : e.d.n ≤ 16777216) (hf : findK Ent.nm e.nm es = some e) (hroom : e.d.n < e.d.c) :
    Calls Try.prog 70 #[.map (some mb), .agg #[.int .i64 2, .string e.nm, .string to, .slice d.A d.n d.c]] w (Applied w lo mb (makeF (es.map Ent.file) (2, e.nm, to, d.xs))) := by
  obtain ⟨i0, hi, hz0, hz1, hz2⟩ := info_parts Try.infoByte
  have hkey := Lib.hid (keyNm (s := e.nm) (by unfold maxLen; omega))
  have HM := Lib.hid (fun W (h : Below w.heap.size w W) => hm.below h)
  have HE := Lib.hid (findK_mem hf).1
  have HD := Lib.hid hd
  have HR := Lib.hid (hm.room e HE.out hroom)
  have hat := Lib.hid (mapD_find hf)
  have hlo : lo ≤ w.heap.size := by have := hm.base; have := hm.lt; omega
  have hmb : mb < w.heap.size := hm.lt
  have hlm : lo ≤ mb := hm.base
  have HL := Lib.hid (fun k hk => HR.out.lt k hk)
  have HV : Hid (∀ y : Ent, y.nm = e.nm → y.d.xs = e.d.xs ++ d.xs → makeF (es.map Ent.file) (2, e.nm, to, d.xs) = (withK Ent.nm y es).map Ent.file) := Lib.hid (fun y h1 h2 => by
    rw [withK_map (f := Ent.file) (key := Ent.nm) (key' := Prod.fst) (fun _ => rfl)]
    simp only [makeF, withF, dataF_find hf, Ent.file, h1, h2]
    rfl)
  have HS := Lib.hid (hm.ok e HE.out)
  clear hm hf hd
  go_enter Try.func70, Try.ntmps70
  go_wp2
  have hrunL : (Instr.lookup 78 (.map (some mb)) (.string e.nm) false).run Try.prog (w.alloc (.cells #[.int .i64 2, .string e.nm, .string to, .slice d.A d.n d.c] 30)).drew = .ok (.slice e.d.A e.d.n e.d.c) (w.alloc (.cells #[.int .i64 2, .string e.nm, .string to, .slice d.A d.n d.c] 30)).drew := look_raw (HM.out _ (below_a1 _ _).drew).own Try.keyed Try.underlying78 (Try.zeroS _) hkey.out hat.out
  have HMW := Lib.hid (HM.out _ (below_a1 w (.cells #[.int .i64 2, .string e.nm, .string to, .slice d.A d.n d.c] 30)).drew)
  go_region_held3 (fun W => W.cell? ⟨w.heap.size, 1, none⟩ = some (.string e.nm) ∧ W.cell? ⟨w.heap.size, 3, none⟩ = some (.slice d.A d.n d.c))
    (first
      | go_keep
      | (exact ⟨(World.cell?_of_block (a := ⟨w.heap.size, 1, none⟩) (hg3.block w.heap.size (by omega) (fun hh => by injection hh with hh; omega))).trans (by simp [*]), (World.cell?_of_block (a := ⟨w.heap.size, 3, none⟩) (hg3.block w.heap.size (by omega) (fun hh => by injection hh with hh; omega))).trans (by simp [*])⟩)
      | (exact ⟨(World.cell?_of_block (a := ⟨w.heap.size, 1, none⟩) (hg1.block w.heap.size (by simp) (fun hh => by have := (HL.out _ hh.symm).2; omega))).trans (by simp [*]), (World.cell?_of_block (a := ⟨w.heap.size, 3, none⟩) (hg1.block w.heap.size (by simp) (fun hh => by have := (HL.out _ hh.symm).2; omega))).trans (by simp [*])⟩))
    (first
      | (refine step_append_any _ (by rfl) (.tmp 19) (.tmp 21) _ (by rfl) lo 5 i0 _ 1 1 Try.underlying22 hi hz0 hz1 hz2 rfl (by omega) e.d.v e.d.n (vb e.d.xs) (by rfl) (own_below HR.out (by first | exact below_a1 _ _ | exact (below_a1 _ _).drew)) _ d.A d.n d.c (vb d.xs) (by rfl) (HD.out.rd.below (by first | exact below_a1 _ _ | exact (below_a1 _ _).drew)).reads (vb_oneCell _) (by simp only [maxLen]; omega) (by omega) (by simp; omega) ?_; intro v1 w2 hown1 hg1 hat1; have HB2 : Hid (Below lo w w2) := Lib.hid (((Below.refl lo w).alloc hlo _).drew.grown hg1 (by simp; omega) (fun k hk => (HL.out k hk).1)); have hw2 : w.heap.size < w2.heap.size := (by have := hg1.size; simp at this; omega); have HRest : Hid (RestIs w2 lo mb es e.nm) := Lib.hid (HMW.out.rest_room HE.out hroom hg1); have HG : Hid (∀ x : Ent, x.d.v = v1 → ∀ f ∈ lessK Ent.nm e.nm es, Gap x f) := Lib.hid (fun x hx => gap_new HMW.out HE.out (by rw [hx]; exact hat1.imp (fun h => ⟨h, fun _ => hroom, fun h0 => by omega⟩) id)); obtain ⟨A1, c1, hv1⟩ := own_form hown1; subst hv1; obtain ⟨w3, hrun3, ho3, hg3⟩ := HRest.out.own.update Try.keyed Try.underlying78 (by unfold maxLen; omega) hkey.out (val := .slice A1 (e.d.n + d.n) c1) (d := .held (.slice A1 (e.d.n + d.n) c1)) (ps := []) rfl))
  all_goals
    go_wp2
    go_end0
    have hsm : ∀ x ∈ e.d.xs ++ d.xs, x < 256 := fun x hx => by
      rcases List.mem_append.1 hx with hx | hx
      · exact HS.out.rd.small x hx
      · exact HD.out.rd.small x hx
    have ho5 : w2.ownsRow lo 5 1 (.slice A1 (e.d.n + d.n) c1) (e.d.n + d.n) (vb (e.d.xs ++ d.xs)) := by rw [vb_append]; exact hown1
    refine ⟨_, rfl, (HV.out ⟨e.nm, ⟨A1, e.d.n + d.n, c1, e.d.xs ++ d.xs⟩⟩ rfl rfl).symm, HRest.out.stored (x := ⟨e.nm, ⟨A1, e.d.n + d.n, c1, e.d.xs ++ d.xs⟩⟩) hg3 ho3 ⟨Rd.of_own ho5 hsm, own_cap ho5⟩ (fun _ => ho5) (HG.out _ rfl), ?_⟩
    exact HB2.out.grown hg3 (by omega) (fun k hk => by injection hk with hk; omega)

theorem FullApp.grow {W w' : World} {lo mb : Nat} {es : List Ent} {e : Ent} {d : Dat} {v : Value} (h : FullApp W 5 1 e.d.A e.d.n d.n (vb e.d.xs ++ vb d.xs) v w') (hM : MapIs W lo mb es) (he : e ∈ es) (hfull : e.d.c = e.d.n) (hd : d.Ok W) (hlo : lo ≤ W.heap.size) :
    ∃ A c, v = .slice A (e.d.n + d.n) c ∧ (⟨A, e.d.n + d.n, c, e.d.xs ++ d.xs⟩ : Dat).Ok w' ∧ (e.d.n + d.n < c → w'.ownsRow lo 5 1 (.slice A (e.d.n + d.n) c) (e.d.n + d.n) (vb (e.d.xs ++ d.xs))) ∧ (∀ f ∈ lessK Ent.nm e.nm es, Gap ⟨e.nm, ⟨A, e.d.n + d.n, c, e.d.xs ++ d.xs⟩⟩ f) ∧ Below W.heap.size W w' := by
  have hk := hM.ok e he
  rcases h with ⟨h0, rfl, rfl⟩ | ⟨_, cap, rfl, ho, hb⟩
  · have hye : d.xs = [] := List.eq_nil_of_length_eq_zero (by have := hd.rd.len; omega)
    refine ⟨e.d.A, e.d.n, by rw [h0]; rfl, ⟨by rw [hye, h0]; simpa using hk.rd, by simp only; omega⟩, fun hh => by omega, gap_new hM he (.inl ⟨?_, fun hh => ?_, fun hh => ?_⟩), Below.refl _ _⟩
    · show (Value.slice e.d.A (e.d.n + d.n) e.d.n).ownBlock = (Value.slice e.d.A e.d.n e.d.c).ownBlock
      cases e.d.A <;> rfl
    · simp only at hh
      omega
    · simp only
      omega
  · rw [← vb_append] at ho
    have hsm : ∀ x ∈ e.d.xs ++ d.xs, x < 256 := fun x hx => by
      rcases List.mem_append.1 hx with hx | hx
      · exact hk.rd.small x hx
      · exact hd.rd.small x hx
    exact ⟨_, cap, rfl, ⟨Rd.of_own ho hsm, own_cap ho⟩, fun _ => own_mono ho hlo, gap_new hM he (.inr (by simp [Dat.v, Value.ownBlock])), hb⟩

set_option maxRecDepth 10000 in
set_option maxHeartbeats 2000000 in
theorem implApply_2b (lo mb : Nat) (es : List Ent) (e : Ent) (to : ByteArray) (d : Dat) (w : World) (hm : MapIs w lo mb es) (hl : es.length ≤ 1048576) (hs : e.nm.size ≤ 1048576) (hd : d.Ok w) (hdn : d.n ≤ 16777216) (hen : e.d.n ≤ 16777216) (hf : findK Ent.nm e.nm es = some e) (hfull : e.d.c = e.d.n) :
    Calls Try.prog 70 #[.map (some mb), .agg #[.int .i64 2, .string e.nm, .string to, .slice d.A d.n d.c]] w (Applied w lo mb (makeF (es.map Ent.file) (2, e.nm, to, d.xs))) := by
  obtain ⟨i0, hi, hz0, hz1, hz2⟩ := info_parts Try.infoByte
  have hkey := Lib.hid (keyNm (s := e.nm) (by unfold maxLen; omega))
  have HM := Lib.hid (fun W (h : Below w.heap.size w W) => hm.below h)
  have HE := Lib.hid (findK_mem hf).1
  have HD := Lib.hid hd
  have hat := Lib.hid (mapD_find hf)
  rw [hfull] at hat
  have hlo : lo ≤ w.heap.size := by have := hm.base; have := hm.lt; omega
  have hmb : mb < w.heap.size := hm.lt
  have hlm : lo ≤ mb := hm.base
  have HV : Hid (∀ y : Ent, y.nm = e.nm → y.d.xs = e.d.xs ++ d.xs → makeF (es.map Ent.file) (2, e.nm, to, d.xs) = (withK Ent.nm y es).map Ent.file) := Lib.hid (fun y h1 h2 => by
    rw [withK_map (f := Ent.file) (key := Ent.nm) (key' := Prod.fst) (fun _ => rfl)]
    simp only [makeF, withF, dataF_find hf, Ent.file, h1, h2]
    rfl)
  have HS := Lib.hid (hm.ok e HE.out)
  clear hm hf hd
  go_enter Try.func70, Try.ntmps70
  go_wp2
  have hrunL : (Instr.lookup 78 (.map (some mb)) (.string e.nm) false).run Try.prog (w.alloc (.cells #[.int .i64 2, .string e.nm, .string to, .slice d.A d.n d.c] 30)).drew = .ok (.slice e.d.A e.d.n e.d.n) (w.alloc (.cells #[.int .i64 2, .string e.nm, .string to, .slice d.A d.n d.c] 30)).drew := look_raw (HM.out _ (below_a1 _ _).drew).own Try.keyed Try.underlying78 (Try.zeroS _) hkey.out hat.out
  have HMW := Lib.hid (HM.out _ (below_a1 w (.cells #[.int .i64 2, .string e.nm, .string to, .slice d.A d.n d.c] 30)).drew)
  have HDW := Lib.hid (HD.out.below (below_a1 w (.cells #[.int .i64 2, .string e.nm, .string to, .slice d.A d.n d.c] 30)).drew)
  go_region_held3 (fun W => W.cell? ⟨w.heap.size, 1, none⟩ = some (.string e.nm) ∧ W.cell? ⟨w.heap.size, 3, none⟩ = some (.slice d.A d.n d.c))
    (first
      | go_keep
      | (exact ⟨(World.cell?_of_block (a := ⟨w.heap.size, 1, none⟩) (hg3.block w.heap.size (by omega) (fun hh => by injection hh with hh; omega))).trans (by simp [*]), (World.cell?_of_block (a := ⟨w.heap.size, 3, none⟩) (hg3.block w.heap.size (by omega) (fun hh => by injection hh with hh; omega))).trans (by simp [*])⟩)
      | (exact ⟨(hb1.cell (p := ⟨w.heap.size, 1, none⟩) (by simp)).trans (by simp [*]), (hb1.cell (p := ⟨w.heap.size, 3, none⟩) (by simp)).trans (by simp [*])⟩))
    (first
      | (refine step_append_full _ (by rfl) (.tmp 19) (.tmp 21) _ (by rfl) 5 i0 _ 1 1 Try.underlying22 hi hz0 hz1 hz2 rfl _ e.d.A e.d.n (vb e.d.xs) (by rfl) (HS.out.rd.below (by first | exact below_a1 _ _ | exact (below_a1 _ _).drew)).reads _ d.A d.n d.c (vb d.xs) (by rfl) (HD.out.rd.below (by first | exact below_a1 _ _ | exact (below_a1 _ _).drew)).reads (by simp only [maxLen]; omega) (by omega) ?_; intro v1 w2 hfa; obtain ⟨A1, c1, hv1, hok1, hr1, hgap1, hb1⟩ := hfa.grow HMW.out HE.out hfull HDW.out (by simp; omega); subst hv1; have HRest : Hid (RestIs w2 lo mb es e.nm) := Lib.hid (HMW.out.rest_below hb1 _); have hw2 : w.heap.size < w2.heap.size := (by have := hb1.size; simp at this; omega); have HB2 : Hid (Below lo w w2) := Lib.hid (((Below.refl lo w).alloc hlo _).drew.trans (hb1.mono (by simp; omega))); have HO := Lib.hid hok1; have HR1 := Lib.hid hr1; have HG1 := Lib.hid hgap1; clear hok1 hr1 hgap1; obtain ⟨w3, hrun3, ho3, hg3⟩ := HRest.out.own.update Try.keyed Try.underlying78 (by unfold maxLen; omega) hkey.out (val := .slice A1 (e.d.n + d.n) c1) (d := .held (.slice A1 (e.d.n + d.n) c1)) (ps := []) rfl))
  all_goals
    go_wp2
    go_end0
    refine ⟨_, rfl, (HV.out ⟨e.nm, ⟨A1, e.d.n + d.n, c1, e.d.xs ++ d.xs⟩⟩ rfl rfl).symm, HRest.out.stored (x := ⟨e.nm, ⟨A1, e.d.n + d.n, c1, e.d.xs ++ d.xs⟩⟩) hg3 ho3 HO.out HR1.out HG1.out, ?_⟩
    exact HB2.out.grown hg3 (by omega) (fun k hk => by injection hk with hk; omega)

theorem implApply_2 (lo mb : Nat) (es : List Ent) (e : Ent) (to : ByteArray) (d : Dat) (w : World) (hm : MapIs w lo mb es) (hl : es.length ≤ 1048576) (hs : e.nm.size ≤ 1048576) (hd : d.Ok w) (hdn : d.n ≤ 16777216) (hen : e.d.n ≤ 16777216) (hf : findK Ent.nm e.nm es = some e) :
    Calls Try.prog 70 #[.map (some mb), .agg #[.int .i64 2, .string e.nm, .string to, .slice d.A d.n d.c]] w (Applied w lo mb (makeF (es.map Ent.file) (2, e.nm, to, d.xs))) := by
  by_cases h : e.d.n < e.d.c
  · exact implApply_2a lo mb es e to d w hm hl hs hd hdn hen hf h
  · have := (hm.ok e (findK_mem hf).1).cap
    exact implApply_2b lo mb es e to d w hm hl hs hd hdn hen hf (by omega)
end Go.Proofs.Ytfcomnpoehpgiaa
