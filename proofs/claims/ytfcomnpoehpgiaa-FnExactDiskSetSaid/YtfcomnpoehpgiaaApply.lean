/- Doing a renaming, a removal or nothing known: the contract of the program's function at kinds 3, 4 and others. -/
import Derived.Test.YtfcomnpoehpgiaaMapOps
import Derived.Maps.OwnSet
namespace Go.Proofs.Ytfcomnpoehpgiaa
open Go.RowKit Go.Maps

theorem insK_front {α : Type} {key : α → ByteArray} (x : α) : ∀ l : List α, (∀ e ∈ l, gtN (key e) (key x) = true) → insK key x l = x :: l
  | [], _ => rfl
  | e :: r, h => by
    unfold insK
    rw [if_pos (h e (by simp))]
def upE (es : List Ent) : Prop := es.Pairwise fun a b => (nmL a.nm).before (nmL b.nm) = true
theorem nm_irrefl (a : ByteArray) : (nmL a).before (nmL a) = false := WideAt.bytes_irrefl _
theorem nm_trans {a b c : ByteArray} (h : (nmL a).before (nmL b) = true) (h2 : (nmL b).before (nmL c) = true) : (nmL a).before (nmL c) = true := WideShapes.bytes_trans _ _ _ h h2
theorem gt_of_before {a b : ByteArray} (h : (nmL b).before (nmL a) = true) : gtN a b = true := by
  rw [gtN_before (fun e => by rw [e, nm_irrefl] at h; cases h)]
  exact h
theorem less_ins {s : ByteArray} {x : Ent} (hx : x.nm ≠ s) : ∀ {l : List Ent}, upE l → (∀ e ∈ l, e.nm ≠ x.nm) → lessK Ent.nm s (insK Ent.nm x l) = insK Ent.nm x (lessK Ent.nm s l)
  | [], _, _ => by simp [insK, lessK, hx]
  | e :: r, hu, hne => by
    obtain ⟨h1, h2⟩ := List.pairwise_cons.1 hu
    have hex := hne e (by simp)
    by_cases hg : gtN e.nm x.nm = true
    · have hb : (nmL x.nm).before (nmL e.nm) = true := by rw [gtN_before hex] at hg; exact hg
      rw [insK_front x (lessK Ent.nm s (e :: r)) (fun f hf => ?_)]
      · unfold insK
        rw [if_pos hg]
        unfold lessK
        rw [List.filter_cons_of_pos (by simpa using hx)]
      · rcases List.mem_cons.1 (lessK_mem hf).1 with rfl | hr
        · exact hg
        · exact gt_of_before (nm_trans hb (h1 f hr))
    · have ih := less_ins (s := s) hx h2 (fun f hf => hne f (by simp [hf]))
      have e1 : insK Ent.nm x (e :: r) = e :: insK Ent.nm x r := by
        conv => lhs; unfold insK
        rw [if_neg hg]
      rw [e1]
      by_cases hs : e.nm = s
      · have e2 : ∀ l : List Ent, lessK Ent.nm s (e :: l) = lessK Ent.nm s l := fun l => by
          unfold lessK
          rw [List.filter_cons_of_neg (by simpa using hs)]
        rw [e2, e2, ih]
      · have e2 : ∀ l : List Ent, lessK Ent.nm s (e :: l) = e :: lessK Ent.nm s l := fun l => by
          unfold lessK
          rw [List.filter_cons_of_pos (by simpa using hs)]
        rw [e2, e2, ih]
        conv => rhs; unfold insK
        rw [if_neg hg]
theorem less_comm {α : Type} {key : α → ByteArray} (a b : ByteArray) (l : List α) : lessK key a (lessK key b l) = lessK key b (lessK key a l) := by
  unfold lessK
  rw [List.filter_filter, List.filter_filter]
  apply List.filter_congr
  intro x _
  rw [Bool.and_comm]
theorem upE.less {es : List Ent} (h : upE es) (s : ByteArray) : upE (lessK Ent.nm s es) := h.filter _
theorem less_with {s : ByteArray} {x : Ent} (hx : x.nm ≠ s) {l : List Ent} (hu : upE l) : lessK Ent.nm s (withK Ent.nm x l) = withK Ent.nm x (lessK Ent.nm s l) := by
  unfold withK
  rw [less_ins hx (hu.less _) (fun e he => (lessK_mem he).2), less_comm]
theorem MapIs.up {w : World} {lo mb : Nat} {es : List Ent} (h : MapIs w lo mb es) : upE es := by
  obtain ⟨a, clock, hb, F, hs, hD⟩ := h.own
  have hr := WideShapes.rising_pairwise _ (fit_rising Try.keyed F)
  have he : es.map entD = (a.toList.map (WideElems.rg Try.prog 9 rawR)).foldr DataW.insert [] := by injection hD
  rw [← he, List.pairwise_map] at hr
  exact hr

theorem look_raw {P : Program} {w : World} {k e t : TypeId} {b n : Nat} {D : DataW Value} (hown : w.ownsMap P k rawR b n D) (K : Keyed P k) (ht : P.underlying t = some (.map k e)) (hz : (zeroValue e).run P w = .ok (.slice none 0 0) w) {key : Value} {kl : Lit} (hkey : keyOf P k key = some kl) {A : Option Addr} {m c : Nat} (hat : ∀ z, D.atKey kl z = .held (.slice A m c)) :
    (Instr.lookup t (.map (some b)) key false).run P w = .ok (.slice A m c) w := by
  obtain ⟨v, ps, hrun, hv⟩ := hown.lookup K ht hz rawR_zero hkey
  obtain ⟨t2, rfl⟩ := rawR_inv v _ hv
  have h2 := rawR_held hv
  rw [hat] at h2
  rw [hrun]
  have : mkSl t2 = .slice A m c := by injection h2 with h2; exact h2.symm
  rw [this]
theorem wpList_lookup_raw {P : Program} (w : World) {ops : Array Oper} {rest : List Oper} {o : Oper} {a : Act} {Q : Exit → Act → World → Prop}
    (hg : o.guard = none) (m x : Operand) (t : TypeId) (hop : o.op = Op.lookup t m x false) (k e : TypeId) (K : Keyed P k) (ht : P.underlying t = some (.map k e)) (hz : (zeroValue e).run P w = .ok (.slice none 0 0) w) (b n : Nat) (D : DataW Value)
    (hm : a.eval m = .map (some b)) (hown : w.ownsMap P k rawR b n D) (key : Value) (kl : Lit) (hx : a.eval x = key) (hkey : keyOf P k key = some kl) (A : Option Addr) (n2 c : Nat) (hat : ∀ z, D.atKey kl z = .held (.slice A n2 c))
    (hK : wpList P ops Q rest (a.put o.dst (.slice A n2 c)) w) : wpList P ops Q (o :: rest) a w := by
  refine wpList_plain hg fun K' hK' => ?_
  have hrun := look_raw hown K ht hz hkey hat
  unfold Oper.wp
  simp [execOp, hop, hm, hx, hrun, Result.andThen]
  exact hK' _ _ hK
theorem mapD_find {es : List Ent} {s : ByteArray} {e : Ent} (h : findK Ent.nm s es = some e) (z : DataW Value) : (mapD es).atKey (nmL s) z = .held (.slice e.d.A e.d.n e.d.c) := by
  rw [mapD_at, h]
  rfl
theorem findK_mem {es : List Ent} {s : ByteArray} {e : Ent} (h : findK Ent.nm s es = some e) : e ∈ es ∧ e.nm = s := by
  refine ⟨List.mem_of_find?_eq_some h, ?_⟩
  have := List.find?_some h
  simpa using this
theorem dataF_find {es : List Ent} {s : ByteArray} {e : Ent} (h : findK Ent.nm s es = some e) : dataF s (es.map Ent.file) = e.d.xs := by
  unfold dataF
  rw [findK_map (f := Ent.file) (key := Ent.nm) (key' := Prod.fst) (fun _ => rfl), h]
  rfl
theorem pair_of {α : Type} {R : α → α → Prop} (hs : ∀ {a b}, R a b → R b a) : ∀ {l : List α}, l.Pairwise R → ∀ {a b : α}, a ∈ l → b ∈ l → a ≠ b → R a b
  | [], _, a, _, ha, _, _ => by simp at ha
  | x :: r, h, a, b, ha, hb, hne => by
    obtain ⟨h1, h2⟩ := List.pairwise_cons.1 h
    rcases List.mem_cons.1 ha with rfl | ha
    · rcases List.mem_cons.1 hb with rfl | hb
      · exact absurd rfl hne
      · exact h1 _ hb
    · rcases List.mem_cons.1 hb with hbx | hb
      · rw [hbx]
        exact hs (h1 _ ha)
      · exact pair_of hs h2 ha hb hne
theorem MapIs.gap {w : World} {lo mb : Nat} {es : List Ent} (h : MapIs w lo mb es) {a b : Ent} (ha : a ∈ es) (hb : b ∈ es) (hne : a.nm ≠ b.nm) : Gap a b :=
  pair_of (R := Gap) (fun hh => hh.symm) h.apart ha hb (fun e => hne (by rw [e]))
theorem MapIs.moved {w w2 : World} {lo mb : Nat} {es : List Ent} {e : Ent} {nm to : ByteArray} {k : Nat} (h : MapIs w lo mb es) (hg : w.grownBy w2 (some mb)) (hf : findK Ent.nm nm es = some e) (ht : to ≠ nm)
    (ho : w2.ownsMap Try.prog 9 rawR mb k (((mapD es).put (nmL to) (.held (.slice e.d.A e.d.n e.d.c))).del (nmL nm))) : MapIs w2 lo mb (withK Ent.nm ⟨to, e.d⟩ (lessK Ent.nm nm es)) := by
  have hp := mapD_put ⟨to, e.d⟩ es
  simp only at hp
  rw [hp, mapD_del, less_with (x := ⟨to, e.d⟩) ht h.up] at ho
  obtain ⟨a, c, hb, _⟩ := h.own
  obtain ⟨he, hen⟩ := findK_mem hf
  have hin : ∀ f ∈ withK Ent.nm ⟨to, e.d⟩ (lessK Ent.nm nm es), f = ⟨to, e.d⟩ ∨ f ∈ es := fun f hf => by
    rcases insK_mem.1 hf with rfl | hf
    · exact .inl rfl
    · exact .inr (lessK_mem (lessK_mem hf).1).1
  refine ⟨tight ho, h.base, fun f hf => ?_, fun f hf hc => ?_, ?_⟩
  · rcases hin f hf with rfl | hf
    · exact ⟨rd_map (h.ok e he).rd hg hb, (h.ok e he).cap⟩
    · exact ⟨rd_map (h.ok f hf).rd hg hb, (h.ok f hf).cap⟩
  · rcases hin f hf with rfl | hf
    · exact own_map (h.room e he hc) hg hb
    · exact own_map (h.room f hf hc) hg hb
  · refine ((insK_perm _ _).pairwise_iff (fun {a b} (hh : Gap a b) => hh.symm)).2 (List.pairwise_cons.2 ⟨fun f hf => ?_, (h.apart.filter _).filter _⟩)
    have h1 := lessK_mem (lessK_mem hf).1
    have hgap : Gap e f := h.gap he h1.1 (by rw [hen]; exact fun e => h1.2 e.symm)
    exact fun hh => hgap hh

set_option maxRecDepth 10000 in
set_option maxHeartbeats 2000000 in
theorem implApply_3 (lo mb : Nat) (es : List Ent) (nm to : ByteArray) (d : Dat) (e : Ent) (w : World) (hm : MapIs w lo mb es) (hl : es.length ≤ 1048576) (hs : nm.size ≤ 1048576) (hs2 : to.size ≤ 1048576) (hf : findK Ent.nm nm es = some e) (ht : to ≠ nm) :
    Calls Try.prog 70 #[.map (some mb), .agg #[.int .i64 3, .string nm, .string to, .slice d.A d.n d.c]] w (Applied w lo mb (makeF (es.map Ent.file) (3, nm, to, d.xs))) := by
  have hkey := Lib.hid (keyNm (s := nm) (by unfold maxLen; omega))
  have hkey2 := Lib.hid (keyNm (s := to) (by unfold maxLen; omega))
  have HM := Lib.hid hm
  have HF := Lib.hid hf
  have HT := Lib.hid ht
  have hat := Lib.hid (mapD_find hf)
  have hlo : lo ≤ w.heap.size := by have := hm.base; have := hm.lt; omega
  have hmb : mb < w.heap.size := hm.lt
  have HV : Hid (makeF (es.map Ent.file) (3, nm, to, d.xs) = (withK Ent.nm ⟨to, e.d⟩ (lessK Ent.nm nm es)).map Ent.file) := Lib.hid (by
    rw [withK_map (f := Ent.file) (key := Ent.nm) (key' := Prod.fst) (fun _ => rfl), lessK_map (f := Ent.file) (key := Ent.nm) (key' := Prod.fst) (fun _ => rfl)]
    show withF (to, dataF nm (es.map Ent.file)) _ = _
    rw [dataF_find hf]
    rfl)
  clear hm hf ht
  go_enter Try.func70, Try.ntmps70
  go_wp2_with (first
    | (at_lookup; refine wpList_lookup_raw _ rfl _ _ 78 rfl 9 22 Try.keyed Try.underlying78 (Try.zeroS _) mb es.length (mapD es) rfl (HM.out.below (below_a1 _ _)).own _ _ rfl hkey.out _ _ _ hat.out ?_)
    | (at_mapUpdate; refine wpList_mapUpdate_own _ rfl _ _ _ 78 rfl 9 22 Try.keyed Try.underlying78 rawR mb es.length (mapD es) rfl (HM.out.below (below_a1 _ _)).own (by unfold maxLen; omega) _ _ _ rfl rfl hkey2.out _ [] rfl ?_; intro w1 ho1 hg1; have hc1 : w1.cell? ⟨w.heap.size, 1, none⟩ = some (.string nm) := (World.cell?_of_block (a := ⟨w.heap.size, 1, none⟩) (hg1.block w.heap.size (by simp) (fun e => by injection e with e; omega))).trans (by simp))
    | (at_delete; refine wpList_delete_own _ rfl _ _ 78 9 rfl 22 Try.keyed Try.underlying78 rawR mb _ _ rfl ho1 _ _ rfl hkey.out ?_; intro w2 ho2 hg2))
  go_end0
  have hgg := hg1.trans hg2.grown
  refine ⟨_, rfl, HV.out.symm, (HM.out.below (below_a1 _ _)).moved hgg HF.out HT.out ho2, ?_⟩
  exact (((Below.refl lo w).alloc hlo _).grown hgg (by simp; omega) (fun k hk => by injection hk with hk; have := HM.out.base; omega))

set_option maxRecDepth 10000 in
set_option maxHeartbeats 2000000 in
theorem implApply_4 (lo mb : Nat) (es : List Ent) (nm to : ByteArray) (d : Dat) (w : World) (hm : MapIs w lo mb es) (hs : nm.size ≤ 1048576) :
    Calls Try.prog 70 #[.map (some mb), .agg #[.int .i64 4, .string nm, .string to, .slice d.A d.n d.c]] w (Applied w lo mb (makeF (es.map Ent.file) (4, nm, to, d.xs))) := by
  have hkey := Lib.hid (keyNm (s := nm) (by unfold maxLen; omega))
  have HM := Lib.hid hm
  have hlo : lo ≤ w.heap.size := by have := hm.base; have := hm.lt; omega
  have HV : Hid (makeF (es.map Ent.file) (4, nm, to, d.xs) = (lessK Ent.nm nm es).map Ent.file) := Lib.hid (by rw [lessK_map (f := Ent.file) (key := Ent.nm) (key' := Prod.fst) (fun _ => rfl)]; rfl)
  clear hm
  go_enter Try.func70, Try.ntmps70
  go_wp2_with (at_delete; refine wpList_delete_own _ rfl _ _ 78 9 rfl 22 Try.keyed Try.underlying78 rawR mb es.length (mapD es) rfl (HM.out.below (below_a1 _ _)).own _ _ rfl hkey.out ?_; intro w1 ho1 hg1)
  go_end0
  refine ⟨_, rfl, HV.out.symm, (HM.out.below (below_a1 _ _)).dropped hg1.grown ho1, ?_⟩
  exact (((Below.refl lo w).alloc hlo _).grown hg1.grown (by simp; omega) (fun k hk => by injection hk with hk; have := HM.out.base; omega))
end Go.Proofs.Ytfcomnpoehpgiaa
