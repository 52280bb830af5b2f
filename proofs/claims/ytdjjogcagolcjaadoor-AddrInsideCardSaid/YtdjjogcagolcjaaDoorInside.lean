/- AddrInside answers true for every four addresses and three numbers: of two prefixes one is in the other or they have no address together. Conditions: the tables of packages math/bits and strconv are what their texts say. -/
import Derived.Test.YtdjjogcagolcjaaDoorIns
namespace Go.Proofs.YtdjjogcagolcjaaDoor
open Go.RowKit
theorem inside_any (xa xb xc x nk nm nn : Int) (w : World) (ha : 0 ≤ xa) (ha2 : xa < 4294967296) (hb : 0 ≤ xb) (hb2 : xb < 4294967296) (hc : 0 ≤ xc) (hc2 : xc < 4294967296) (hT : Tab w) (h10 : Tab10 w) :
    Calls Tryd.prog 7 #[.int .u32 xa, .int .u32 xb, .int .u32 xc, .int .u32 x, .int .i64 nk, .int .i64 nm, .int .i64 nn] w fun e w' => e = .returned (.bool true) ∧ Below w.heap.size w w' := by
  have F1 := fun w => fit_is xa nk w ha ha2
  have F2 := fun w => fit_is xb nm w hb hb2
  have F3 := fun w => fit_is xc nn w hc hc2
  obtain ⟨a0, a1⟩ := fa_range xa nk ha ha2
  obtain ⟨b0, b1⟩ := fa_range xb nm hb hb2
  obtain ⟨c0, c1⟩ := fa_range xc nn hc hc2
  have hk := fa_ck xa nk
  have hm := fa_ck xb nm
  have hn := fa_ck xc nn
  generalize fa xa nk = a at *
  generalize fa xb nm = b at *
  generalize fa xc nn = c at *
  generalize fm nk = k at *
  generalize fm nm = m at *
  generalize fm nn = n at *
  obtain ⟨k0, k1, _⟩ := ck_ok a k hk
  obtain ⟨m0, m1, _⟩ := ck_ok b m hm
  obtain ⟨j0, j1⟩ := cmK_range a k b m a0 a1 b0 b1 k0 m0
  obtain ⟨d0, d1⟩ := sub_range a (cmK a k b m) a0 a1 j0 j1
  have hj := sub_ck a (cmK a k b m) j0 j1
  have w1 := cm_wi1 a0 a1 b0 b1 hk hm
  have w2 := cm_wi2 a0 a1 b0 b1 hk hm
  have w3 := @cm_least a k b m c n a0 a1 b0 b1 hk hm hn
  have hco := fun w => common_ok a k b m w a0 a1 b0 b1 hk hm
  generalize a / pw (cmK a k b m) * pw (cmK a k b m) = d at *
  generalize cmK a k b m = j at *
  have hp := pw_pos (k + 1)
  have hg : k ≠ 32 → 0 ≤ a + pw (k + 1) ∧ a + pw (k + 1) < 4294967296 := fun h => by
    have := ck_last a k a1 hk
    have := pw_succ k (by omega)
    omega
  refine inside_walk xa xb xc x nk nm nn a k b m c n d j (k + 1) (a + pw (k + 1)) (a + (pw k - 1)) (wiB a k b m) (wiB b m a k) (decide (a = b ∧ k = m)) (wiB b m c n) (wiB a k c n) (inB a b m) (inB (a + (pw k - 1)) b m) (inB x a k) (inB x b m) (wiB d j c n) (inB x a (k + 1)) (inB x (a + pw (k + 1)) (k + 1)) (decide (a ≤ x)) (decide (x ≤ a + (pw k - 1))) w
    (Lib.hid hT) (Lib.hid h10) (Lib.hid F1) (Lib.hid F2) (Lib.hid F3) (Lib.hid fun w => ends_ok a k w a0 a1 hk) (Lib.hid hco) (Lib.hid ?_) (Lib.hid fun w => same_is a k b m w)
    (Lib.hid fun w => ?_) (Lib.hid fun w => within_is a k b m w a0 a1 b0 b1) (Lib.hid fun w => within_is b m a k w b0 b1 a0 a1) (Lib.hid fun w => within_is b m c n w b0 b1 c0 c1) (Lib.hid fun w => within_is a k c n w a0 a1 c0 c1)
    (Lib.hid fun w => ?_) (Lib.hid fun w => ?_) (Lib.hid fun w => within_is d j c n w d0 d1 c0 c1)
    (Lib.hid fun w => in_is a b m w b0 b1) (Lib.hid fun w => in_is _ b m w b0 b1) (Lib.hid fun w => in_is x a k w a0 a1) (Lib.hid fun w => in_is x b m w b0 b1)
    (fun h => Lib.hid fun w => in_is x a (k + 1) w a0 a1) (fun h => Lib.hid fun w => in_is x _ (k + 1) w (hg h).1 (hg h).2) (fun h => Lib.hid fun w => ?_) (fun h => Lib.hid fun w => ?_) (Lib.hid fun w => ?_)
    (Lib.hid (wi_anti hk hm).symm) (Lib.hid fun h h2 => wi_trans hk hm hn h h2) (Lib.hid (wi_ends hk hm)) (Lib.hid fun h h2 h3 => wi_meet hk hm h h2 h3) (Lib.hid rfl) (Lib.hid rfl) (Lib.hid (in_ends hk)) (Lib.hid fun h h2 => w3 h h2) (fun h => Lib.hid (half_in hk (by omega)))
  · by_cases h : k = 32
    · subst h
      exact .inl ⟨rfl, fun w => halves_32 a w a0 a1⟩
    · exact .inr ⟨h, fun w => halves_ok a k w a0 a1 hk (by omega)⟩
  · have h := within_is a k a k w a0 a1 a0 a1
    rwa [wi_refl hk] at h
  · have h := within_is a k d j w a0 a1 d0 d1
    rwa [w1] at h
  · have h := within_is b m d j w b0 b1 d0 d1
    rwa [w2] at h
  · have h' := within_is a (k + 1) a k w a0 a1 a0 a1
    rwa [half_wi1 hk (by omega)] at h'
  · have h' := within_is (a + pw (k + 1)) (k + 1) a k w (hg h).1 (hg h).2 a0 a1
    rwa [half_wi2 hk (by omega)] at h'
  · have h' := cmp_is a (k + 1) (a + pw (k + 1)) (k + 1) w
    rwa [half_cmp a k] at h'
end Go.Proofs.YtdjjogcagolcjaaDoor
