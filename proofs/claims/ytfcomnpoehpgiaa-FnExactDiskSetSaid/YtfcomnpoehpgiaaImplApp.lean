/- The contract of the program's function that asks whether an operation is applicable. -/
import Derived.Test.YtfcomnpoehpgiaaMapIs
namespace Go.Proofs.Ytfcomnpoehpgiaa
open Go.RowKit Go.Maps

theorem Try.zeroS (w : World) : (zeroValue 22).run Try.prog w = .ok (.slice none 0 0) w := by kernel_rfl
theorem rawR_zero : rawR (.slice none 0 0) = some (.held (.slice none 0 0), []) := rfl
theorem keyNm {s : ByteArray} (h : s.size ≤ maxLen) : keyOf Try.prog 9 (.string s) = some (nmL s) := Go.WideMaps.keyOf_string_mk Try.underlying9 h

set_option maxRecDepth 10000 in
set_option maxHeartbeats 2000000 in
theorem implApp (lo mb : Nat) (es : List Ent) (o : OpE) (w : World) (hm : MapIs w lo mb es) (hl : es.length ≤ 1048576) (hs : o.nm.size ≤ 1048576) :
    Calls Try.prog 62 #[.map (some mb), .agg #[.int .i64 o.kind, .string o.nm, .string o.to, .slice o.d.A o.d.n o.d.c]] w (Tells w (fitsF (es.map Ent.file) o.op)) := by
  have hkey := Lib.hid (keyNm (s := o.nm) (by unfold maxLen; omega))
  have HM := Lib.hid (fun b => (hm.below (below_a1 w b)).own)
  have HH := Lib.hid (mapD_has o.nm es)
  have hhas := hasF_ents o.nm es
  obtain ⟨kind, nm, to, d⟩ := o
  simp only [OpE.op] at *
  by_cases h1 : kind = 1
  · subst h1
    have HV : Hid (fitsF (es.map Ent.file) (1, nm, to, d.xs) = (hasK Ent.nm nm es || decide (es.length < 12))) := Lib.hid (by simp [fitsF, hhas])
    have hlen : ∀ b : Obj, (Builtin.len_ #[78] 3 #[.map (some mb)]).run Try.prog (w.alloc b) = .ok (.int .i64 (es.length : Int)) (w.alloc b) := fun b => by
      have := (HM.out b).len Try.underlying78 3
      rw [mapD_size] at this
      exact this
    cases hb : hasK Ent.nm nm es with
    | true =>
      rw [hb] at HH HV
      clear hm hhas hb
      go_enter Try.func62, Try.ntmps62
      go_wp2_with (at_lookup; refine wpList_lookup_own_ok _ rfl _ _ 78 rfl 9 22 Try.keyed Try.underlying78 _ (Try.zeroS _) _ [] rawR_zero mb es.length (mapD es) rfl (HM.out _) _ _ rfl hkey.out ?_; intro v ps hv; rw [HH.out])
      go_ret
      exact ⟨ret_bool (by rw [HV.out]; simp), below_a1 _ _⟩
    | false =>
      rw [hb] at HH HV
      clear hm hhas hb
      go_enter Try.func62, Try.ntmps62
      go_wp2_with (at_lookup; refine wpList_lookup_own_ok _ rfl _ _ 78 rfl 9 22 Try.keyed Try.underlying78 _ (Try.zeroS _) _ [] rawR_zero mb es.length (mapD es) rfl (HM.out _) _ _ rfl hkey.out ?_; intro v ps hv; rw [HH.out])
      go_ret
      exact ⟨ret_bool (by rw [HV.out]; simp <;> omega), below_a1 _ _⟩
  · have e1 : (kind == 1) = false := by simpa using h1
    by_cases h3 : kind = 3
    · subst h3
      have HV : Hid (fitsF (es.map Ent.file) (3, nm, to, d.xs) = (hasK Ent.nm nm es && decide (to ≠ nm))) := Lib.hid (by simp [fitsF, hhas])
      cases hb : hasK Ent.nm nm es with
      | true =>
        rw [hb] at HH HV
        by_cases ht : to = nm
        · have hq := str_eq ht
          have HT := Lib.hid ht
          clear hm hhas hb ht e1 h1
          go_enter Try.func62, Try.ntmps62
          go_wp2_with (at_lookup; refine wpList_lookup_own_ok _ rfl _ _ 78 rfl 9 22 Try.keyed Try.underlying78 _ (Try.zeroS _) _ [] rawR_zero mb es.length (mapD es) rfl (HM.out _) _ _ rfl hkey.out ?_; intro v ps hv; rw [HH.out])
          go_ret
          exact ⟨ret_bool (by rw [HV.out]; simp [HT.out]), below_a1 _ _⟩
        · have hq := str_ne ht
          have HT := Lib.hid ht
          clear hm hhas hb ht e1 h1
          go_enter Try.func62, Try.ntmps62
          go_wp2_with (at_lookup; refine wpList_lookup_own_ok _ rfl _ _ 78 rfl 9 22 Try.keyed Try.underlying78 _ (Try.zeroS _) _ [] rawR_zero mb es.length (mapD es) rfl (HM.out _) _ _ rfl hkey.out ?_; intro v ps hv; rw [HH.out])
          go_ret
          exact ⟨ret_bool (by rw [HV.out]; simp [HT.out]), below_a1 _ _⟩
      | false =>
        rw [hb] at HH HV
        clear hm hhas hb e1 h1
        go_enter Try.func62, Try.ntmps62
        go_wp2_with (at_lookup; refine wpList_lookup_own_ok _ rfl _ _ 78 rfl 9 22 Try.keyed Try.underlying78 _ (Try.zeroS _) _ [] rawR_zero mb es.length (mapD es) rfl (HM.out _) _ _ rfl hkey.out ?_; intro v ps hv; rw [HH.out])
        go_ret
        exact ⟨ret_bool (by rw [HV.out]; simp), below_a1 _ _⟩
    · have e3 : (kind == 3) = false := by simpa using h3
      have HV : Hid (fitsF (es.map Ent.file) (kind, nm, to, d.xs) = hasK Ent.nm nm es) := Lib.hid (by simp only [fitsF, h1, if_false, h3, hhas])
      generalize hasK Ent.nm nm es = b at HH HV
      clear hm hhas h1 h3
      go_enter Try.func62, Try.ntmps62
      go_wp2_with (at_lookup; refine wpList_lookup_own_ok _ rfl _ _ 78 rfl 9 22 Try.keyed Try.underlying78 _ (Try.zeroS _) _ [] rawR_zero mb es.length (mapD es) rfl (HM.out _) _ _ rfl hkey.out ?_; intro v ps hv; rw [HH.out])
      go_ret
      exact ⟨ret_bool (by rw [HV.out]), below_a1 _ _⟩
end Go.Proofs.Ytfcomnpoehpgiaa
