/- Rules and headers as numbers, and what is told of one rule and one header: may it be, does it fit. No condition; nothing here speaks of the program but for the numbers of its types. -/
import Derived.Test.YtgggmhaopcgkkaaGreatDoorAddrW1
namespace Go.Proofs.YtgggmhaopcgkkaaGreatDoor
open Go.RowKit
/-- A rule's ten cells. -/
structure RuleD where
  perm : Bool
  proto : Int
  sa : Int
  sn : Int
  da : Int
  dn : Int
  sl : Int
  sh : Int
  dl : Int
  dh : Int
/-- A header's five cells. -/
structure HdrD where
  src : Int
  dst : Int
  pr : Int
  sp : Int
  dp : Int
def encR (r : RuleD) : List Value := [.bool r.perm, .int .i64 r.proto, .int .u32 r.sa, .int .i64 r.sn, .int .u32 r.da, .int .i64 r.dn, .int .u32 r.sl, .int .u32 r.sh, .int .u32 r.dl, .int .u32 r.dh]
def encH (h : HdrD) : List Value := [.int .u32 h.src, .int .u32 h.dst, .int .u8 h.pr, .int .u16 h.sp, .int .u16 h.dp]
def vR (r : RuleD) : Value := .agg (encR r).toArray
def vH (h : HdrD) : Value := .agg (encH h).toArray
structure RuleD.ok (r : RuleD) : Prop where
  a0 : 0 ≤ r.sa
  a1 : r.sa < 4294967296
  b0 : 0 ≤ r.da
  b1 : r.da < 4294967296
structure HdrD.ok (h : HdrD) : Prop where
  s0 : 0 ≤ h.src
  s1 : h.src < 4294967296
  d0 : 0 ≤ h.dst
  d1 : h.dst < 4294967296
  p0 : 0 ≤ h.pr
  p1 : h.pr < 256
  x0 : 0 ≤ h.sp
  x1 : h.sp < 65536
  y0 : 0 ≤ h.dp
  y1 : h.dp < 65536
/-- May a span of ports be? -/
def pmB (lo hi : Int) : Bool := decide (lo ≤ hi) && decide (hi ≤ 65535)
/-- Is a port in a span? -/
def piB (x lo hi : Int) : Bool := decide (lo ≤ x) && decide (x ≤ hi)
/-- May a rule be? -/
def mayB (r : RuleD) : Bool := decide (-1 ≤ r.proto) && (decide (r.proto ≤ 255) && (decide (ck r.sa r.sn = 0) && (decide (ck r.da r.dn = 0) && (pmB r.sl r.sh && pmB r.dl r.dh))))
/-- Does a header fit a rule? -/
def fitB (r : RuleD) (h : HdrD) : Bool := inB h.src r.sa r.sn && (inB h.dst r.da r.dn && ((decide (r.proto = -1) || decide (r.proto = h.pr)) && (piB h.sp r.sl r.sh && piB h.dp r.dl r.dh)))
end Go.Proofs.YtgggmhaopcgkkaaGreatDoor
